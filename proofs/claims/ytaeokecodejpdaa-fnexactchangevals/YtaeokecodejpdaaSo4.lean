/- What symMergeCmpFunc does to a row of validators: two runs in order become one, equals in their order. Conditions: rows that a machine can hold. -/
import Derived.Test.YtaeokecodejpdaaSo3
namespace Go.Proofs.Ytaeokecodejpdaa
open Go.RowKit
open Num
set_option linter.unusedVariables false
/-- What is asked of symMergeCmpFunc at runs of at most n together. -/
def SymAt (n : Nat) : Prop := ∀ (b c a m e cap T : Nat) (x L R y : List V) (w0 w : World), L.length + R.length ≤ n → SS w0 b c (x ++ L ++ R ++ y) w → Srt L → Srt R → 0 < L.length → 0 < R.length →
  x.length = a → a + L.length = m → m + R.length = e → (x ++ L ++ R ++ y).length = T → T ≤ 2097152 →
  Calls Try.prog 30 #[.slice (some ⟨b, 0, none⟩) T cap, .int .i64 (a : Int), .int .i64 (m : Int), .int .i64 (e : Int), lessOf c] w fun r w' => r = .returned (.tuple #[]) ∧ ∃ M, Mrg L R M ∧ SS w0 b c (x ++ M ++ y) w'
set_option maxHeartbeats 12800000 in
set_option maxRecDepth 100000 in
theorem sym_step (n : Nat) (ih : SymAt n) (b c a m e cap T : Nat) (x L R y : List V) (w0 w : World) (hn : L.length + R.length ≤ n + 1) (h : SS w0 b c (x ++ L ++ R ++ y) w) (hL : Srt L) (hR : Srt R) (hL2 : 2 ≤ L.length) (hR2 : 2 ≤ R.length)
    (h1 : x.length = a) (h2 : a + L.length = m) (h3 : m + R.length = e) (hT : (x ++ L ++ R ++ y).length = T) (hl : T ≤ 2097152) :
    Calls Try.prog 30 #[.slice (some ⟨b, 0, none⟩) T cap, .int .i64 (a : Int), .int .i64 (m : Int), .int .i64 (e : Int), lessOf c] w fun r w' => r = .returned (.tuple #[]) ∧ ∃ M, Mrg L R M ∧ SS w0 b c (x ++ M ++ y) w' := by
  have hlen : x.length + L.length + R.length + y.length = T := by rw [← hT]; simp; omega
  have ma' : ((m : Int) - (a : Int) == 1) = false := beq_eq_false_iff_ne.2 (by omega)
  have ma : ¬ (m : Int) - (a : Int) = 1 := by omega
  have em' : ((e : Int) - (m : Int) == 1) = false := beq_eq_false_iff_ne.2 (by omega)
  have em : ¬ (e : Int) - (m : Int) = 1 := by omega
  have hLR : Hid (Srt L ∧ Srt R) := ⟨hL, hR⟩
  have HS0 : Hid (SS w0 b c (x ++ L ++ R ++ y) w) := h
  have HX : Hid (x.length = a ∧ a + L.length = m ∧ m + R.length = e ∧ (x ++ L ++ R ++ y).length = T) := ⟨h1, h2, h3, hT⟩
  have HIH : Hid (SymAt n) := ih
  have HEl : Hid (∀ k, a ≤ k → k < m → el (x ++ L ++ R ++ y) k = el L (k - a)) := fun k hk1 hk2 => by
    rw [List.append_assoc, List.append_assoc, el_right (by omega), el_left (by omega), h1]
  have HEr : Hid (∀ k, m ≤ k → k < e → el (x ++ L ++ R ++ y) k = el R (k - m)) := fun k hk1 hk2 => by
    rw [List.append_assoc, el_right (by rw [List.length_append]; omega), el_left (by rw [List.length_append]; omega), List.length_append, h1, h2]
  obtain ⟨mid, hmid⟩ : ∃ mid, (a + e) / 2 = mid := ⟨_, rfl⟩
  have hmz : ((a : Int) + (e : Int)) / 2 = (mid : Int) := by omega
  obtain ⟨N, hN⟩ : ∃ N, mid + m = N := ⟨_, rfl⟩
  have hNz : (mid : Int) + (m : Int) = (N : Int) := by omega
  have haT : a ≤ T := by omega
  have heT : e ≤ T := by omega
  have hmT : m ≤ T := by omega
  have hmidT : mid ≤ T := by omega
  have ham : a + 2 ≤ m := by omega
  have hme : m + 2 ≤ e := by omega
  have hmm : a < mid ∧ mid < e := by omega
  obtain ⟨P, hP⟩ : ∃ P, N - 1 = P := ⟨_, rfl⟩
  have hPz : (N : Int) - 1 = (P : Int) := by omega
  obtain ⟨s0, r0, hsr⟩ : ∃ s0 r0, (mid < m ∧ s0 + e = N ∧ r0 = mid) ∨ (m ≤ mid ∧ s0 = a ∧ r0 = m) := by
    by_cases hh : mid < m
    · exact ⟨N - e, mid, .inl ⟨hh, by omega, rfl⟩⟩
    · exact ⟨a, m, .inr ⟨by omega, rfl, rfl⟩⟩
  have HSR : Hid ((mid < m ∧ s0 + e = N ∧ r0 = mid) ∨ (m ≤ mid ∧ s0 = a ∧ r0 = m)) := hsr
  have HNE : Hid (mid + m = N ∧ N - 1 = P ∧ 2 * mid ≤ a + e ∧ a + e ≤ 2 * mid + 1) := ⟨hN, hP, by omega, by omega⟩
  have hs0a : a ≤ s0 := by omega
  have hs0r : s0 ≤ r0 := by omega
  have hr0m : r0 ≤ m := by omega
  have hNT : N ≤ 2 * T := by omega
  have HCQ : Hid (∀ q, s0 ≤ q → q < r0 → a ≤ q ∧ q < m ∧ m ≤ P - q ∧ P - q < e ∧ q ≤ P) := fun q hq1 hq2 => by omega
  have HEND : Hid ((s0 = a ∨ N - s0 = e) ∧ (r0 = m ∨ N - r0 = m) ∧ m ≤ N - r0 ∧ N - s0 ≤ e ∧ r0 ≤ mid ∨ m ≤ mid) := by show _ ∨ _; omega
  clear h hL hR h1 h2 h3 hT hlen hmid hN hP ih
  rcases hsr with ⟨hmm1, hss, hrr⟩ | ⟨hmm1, hss, hrr⟩
  · have hmz1 : (mid : Int) < (m : Int) := by omega
    have hsz : (N : Int) - (e : Int) = (s0 : Int) := by omega
    have HST : Hid (((N : Int) - (e : Int) : Int) = (s0 : Int) ∧ (mid : Int) = (r0 : Int)) := by show _ ∧ _; omega
    clear hss hrr
    go_enter Try.func30, Try.ntmps30
    go_wp2
    go_loopw [20, 21] (fun iv jv wr => ∃ i j : Nat, iv = .int .i64 i ∧ jv = .int .i64 j ∧ s0 ≤ i ∧ i ≤ j ∧ j ≤ r0 ∧ Hid ((i = s0 ∨ (el L (i - 1 - a)).i ≤ (el R (P - (i - 1) - m)).i) ∧ (j = r0 ∨ (el R (P - j - m)).i < (el L (j - a)).i)) ∧ Hid (SS w0 b c (x ++ L ++ R ++ y) wr)) (fun iv jv _ => (intOf jv).toNat - (intOf iv).toNat)
    case atStart => exact ⟨s0, r0, by first | rfl | (rw [← HST.out.1]), by first | rfl | (rw [← HST.out.2]), Nat.le_refl _, hs0r, Nat.le_refl _, ⟨.inl rfl, .inl rfl⟩, HS0⟩
    case round =>
      clear HS0
      obtain ⟨i, j, rfl, rfl, hi, hij, hj, HP, HS⟩ := hrel
      by_cases hlt : i < j
      · have hltz : (i : Int) < (j : Int) := by omega
        obtain ⟨h, hh⟩ : ∃ h, (i + j) / 2 = h := ⟨_, rfl⟩
        have hhz : ((i : Int) + (j : Int)) / 2 = (h : Int) := by omega
        have hhi : i ≤ h := by omega
        have hhj : h < j := by omega
        have hcq := HCQ.out h (by omega) (by omega)
        obtain ⟨ph, hph⟩ : ∃ ph, P - h = ph := ⟨_, rfl⟩
        have hphz : (P : Int) - (h : Int) = (ph : Int) := by omega
        have hwp : IntKind.i64.wrap ((P : Int) - (h : Int)) = (ph : Int) := by rw [IntKind.wrap_i64]; omega
        have hne := bel_some wr
        obtain ⟨q, hq⟩ : ∃ q, el L (h - a) = q := ⟨_, rfl⟩
        obtain ⟨v, hv⟩ : ∃ q, el R (ph - m) = q := ⟨_, rfl⟩
        obtain ⟨q1, q2, q3, q4⟩ := HX.out
        obtain ⟨p1, p2, _, _⟩ := HS.out.cells (i := h) (by omega)
        obtain ⟨p3, p4, _, _⟩ := HS.out.cells (i := ph) (by omega)
        rw [HEl.out h (by omega) (by omega), hq] at p1 p2
        rw [HEr.out ph (by omega) (by omega), hv] at p3 p4
        have c1 := fun p : Bel wr => p.cell p1
        have c2 := fun p : Bel wr => p.cell p2
        have c3 := fun p : Bel wr => p.cell p3
        have c4 := fun p : Bel wr => p.cell p4
        have HCF : Hid (∀ p : Bel wr, CF p.W c) := fun p => HS.out.cf.below p.h
        have HB : Hid (∀ p : Bel wr, SS w0 b c (x ++ L ++ R ++ y) p.W) := fun p => HS.out.below p.h
        have hhl : (h : Int) < (T : Int) := by omega
        have hpl : (ph : Int) < (T : Int) := by omega
        have HPH : Hid (P - h = ph) := hph
        clear p1 p2 p3 p4 hh hph q1 q2 q3 q4 hphz
        have hsg := cmpI_neg v.i q.i
        obtain ⟨g, hg⟩ : ∃ g, cmpI v.i q.i = g := ⟨_, rfl⟩
        have kL := fun W hW => less_any v q c W hW
        rw [hg] at kL hsg
        have HSG : Hid (g < 0 ↔ v.i < q.i) := hsg
        clear hg hsg
        by_cases hgn : g < 0
        · have HP2 : Hid ((i = s0 ∨ (el L (i - 1 - a)).i ≤ (el R (P - (i - 1) - m)).i) ∧ (h = r0 ∨ (el R (P - h - m)).i < (el L (h - a)).i)) := ⟨HP.out.1, .inr (by rw [hq, HPH.out, hv]; exact HSG.out.1 hgn)⟩
          go_wp2_with fail
          refine wp_region_below (by kernel_rfl) (by kernel_rfl) ?_
          repeat (go_big_quiet_step ((go_at_call 24; exact bel_of (kL _ (HCF.out _)))))
          refine wpQuiet_nil ?_
          intro _ hw'
          obtain ⟨pq, hw''⟩ := hw'
          subst hw''
          have HS3 : Hid (SS w0 b c (x ++ L ++ R ++ y) pq.W) := HB.out pq
          clear c1 c2 c3 c4
          go_wp2
          go_roundw
          case rel => exact ⟨i, h, rfl, rfl, hi, by omega, by omega, HP2, HS3⟩
          case measure => simp [intOf]; omega
        · have HP2 : Hid ((h + 1 = s0 ∨ (el L (h + 1 - 1 - a)).i ≤ (el R (P - (h + 1 - 1) - m)).i) ∧ (j = r0 ∨ (el R (P - j - m)).i < (el L (j - a)).i)) := ⟨.inr (by rw [Nat.add_sub_cancel, hq, HPH.out, hv]; have := mt HSG.out.2 hgn; omega), HP.out.2⟩
          have hgd : decide (g < 0) = false := decide_eq_false hgn
          go_wp2_with fail
          refine wp_region_below (by kernel_rfl) (by kernel_rfl) ?_
          repeat (go_big_quiet_step ((go_at_call 24; exact bel_of (kL _ (HCF.out _)))))
          refine wpQuiet_nil ?_
          intro _ hw'
          obtain ⟨pq, hw''⟩ := hw'
          subst hw''
          have HS3 : Hid (SS w0 b c (x ++ L ++ R ++ y) pq.W) := HB.out pq
          clear c1 c2 c3 c4
          go_wp2
          go_roundw
          case rel => exact ⟨h + 1, j, by go_num, rfl, by omega, by omega, hj, HP2, HS3⟩
          case measure => simp [intOf]; omega
      · have hji : j = i := by omega
        subst hji
        obtain ⟨E, hE⟩ : ∃ E, N - j = E := ⟨_, rfl⟩
        have hEz : (N : Int) - (j : Int) = (E : Int) := by have := HNE.out; omega
        obtain ⟨k1, k2, k3, k4⟩ := HNE.out
        obtain ⟨q1, q2, q3, q4⟩ := HX.out
        have hEm : m ≤ E := by have := HSR.out; omega
        have hEe : E ≤ e := by have := HSR.out; omega
        have hja : a ≤ j := by omega
        have hjm : j ≤ m := by omega
        have hF := sym_facts hLR.out.1 hLR.out.2 (t1 := j - a) (t2 := E - m) (by omega) (by omega)
          (by
            rcases HP.out.1 with hp | hp
            · have := HSR.out; omega
            · by_cases h0 : j = a
              · left; omega
              · right; right
                rw [show j - a - 1 = j - 1 - a from by omega, show E - m = P - (j - 1) - m from by omega]; exact hp)
          (by
            rcases HP.out.2 with hp | hp
            · have := HSR.out; omega
            · by_cases h0 : E = m
              · right; left; omega
              · right; right
                rw [show E - m - 1 = P - j - m from by omega]; exact hp)
        have hsL := hLR.out.1
        have hsR := hLR.out.2
        obtain ⟨L1, hL1⟩ : ∃ l, L.take (j - a) = l := ⟨_, rfl⟩
        obtain ⟨L2, hL2'⟩ : ∃ l, L.drop (j - a) = l := ⟨_, rfl⟩
        obtain ⟨R1, hR1⟩ : ∃ l, R.take (E - m) = l := ⟨_, rfl⟩
        obtain ⟨R2, hR2'⟩ : ∃ l, R.drop (E - m) = l := ⟨_, rfl⟩
        have hLL : L = L1 ++ L2 := by rw [← hL1, ← hL2', List.take_append_drop]
        have hRR : R = R1 ++ R2 := by rw [← hR1, ← hR2', List.take_append_drop]
        have n1 : L1.length = j - a := by rw [← hL1, List.length_take]; omega
        have n2 : L2.length = m - j := by rw [← hL2', List.length_drop]; omega
        have n3 : R1.length = E - m := by rw [← hR1, List.length_take]; omega
        have n4 : R2.length = e - E := by rw [← hR2', List.length_drop]; omega
        rw [hL1, hL2', hR1, hR2'] at hF
        rw [hLL] at hsL
        rw [hRR] at hsR
        obtain ⟨sL1, sL2, _⟩ := hsL.parts
        obtain ⟨sR1, sR2, _⟩ := hsR.parts
        have HSP : Hid (Srt (L1 ++ L2) ∧ Srt (R1 ++ R2) ∧ (∀ u ∈ L1, ∀ v ∈ R2, u.i ≤ v.i) ∧ (∀ u ∈ L2, ∀ v ∈ R1, v.i < u.i)) := ⟨hsL, hsR, hF.1, hF.2⟩
        have HS4 : Hid (SS w0 b c (x ++ L1 ++ L2 ++ R1 ++ (R2 ++ y)) wr) := by
          show SS _ _ _ _ _
          have := HS.out
          rw [hLL, hRR] at this
          simpa using this
        have HLL : Hid (L = L1 ++ L2 ∧ R = R1 ++ R2) := ⟨hLL, hRR⟩
        have hTT : x.length + L1.length + L2.length + R1.length + R2.length + y.length ≤ T ∧ T ≤ x.length + L1.length + L2.length + R1.length + R2.length + y.length := by rw [← q4, hLL, hRR]; simp; omega
        have hln : L1.length + L2.length + R1.length + R2.length ≤ n + 1 := by rw [hLL, hRR, List.length_append, List.length_append] at hn; omega
        have hxa : x.length ≤ a ∧ a ≤ x.length := by omega
        have hjE : j + E ≤ N ∧ N ≤ j + E := by omega
        have hmN : mid + m ≤ N ∧ N ≤ mid + m := by omega
        have nn : (L1.length + a ≤ j ∧ j ≤ L1.length + a) ∧ (L2.length + j ≤ m ∧ m ≤ L2.length + j) ∧ (R1.length + m ≤ E ∧ E ≤ R1.length + m) ∧ (R2.length + E ≤ e ∧ e ≤ R2.length + E) := by omega
        clear n1 n2 n3 n4 hE hF hL1 hL2' hR1 hR2' hLL hRR hsL hsR HP HS k1 k2 k3 k4 q1 q2 q3 q4
        have hltz : ¬ (j : Int) < (j : Int) := by omega
        rcases Nat.eq_or_lt_of_le hja with ja | ja
        · rcases Nat.eq_or_lt_of_le hjm with jm | jm
          · rcases Nat.eq_or_lt_of_le hEm with me | me
            · rcases Nat.eq_or_lt_of_le hEe with ee | ee
              · exfalso; omega
              · exfalso; omega
            · rcases Nat.eq_or_lt_of_le hEe with ee | ee
              · exfalso; omega
              · exfalso; omega
          · rcases Nat.eq_or_lt_of_le hEm with me | me
            · rcases Nat.eq_or_lt_of_le hEe with ee | ee
              · exfalso; omega
              · exfalso; omega
            · rcases Nat.eq_or_lt_of_le hEe with ee | ee
              · try (exfalso; omega)
                all_goals
                  have y1 : j ≤ a := by omega
                  have y2 : j < m := by omega
                  have y3 : m < E := by omega
                  have y4 : e ≤ E := by omega
                  clear ja jm me ee
                  have z1 : (j : Int) < (m : Int) := by omega
                  have z2 : (m : Int) < (E : Int) := by omega
                  have z3 : ¬ (a : Int) < (j : Int) := by omega
                  have z4 : (j : Int) < (mid : Int) := by omega
                  have z5 : (mid : Int) < (E : Int) := by omega
                  have z6 : ¬ (E : Int) < (e : Int) := by omega
                  have kR := rot_any b c j m E cap (x ++ L1) L2 R1 (R2 ++ y) w0 wr HS4.out (by rw [List.length_append]; omega) (by omega) (by omega) (by omega) (by omega) (by simp; omega) T (by simp; omega)
                  go_wp2_with fail
                  refine kR.mono ?_
                  rintro r w1 ⟨rfl, hs⟩
                  have HS5 : Hid (SS w0 b c (x ++ L1 ++ R1 ++ (L2 ++ R2 ++ y)) w1) := by show SS _ _ _ _ _; simpa using hs
                  clear hs kR HS4
                  have e1 : L1 = [] := List.eq_nil_of_length_eq_zero (by omega)
                  obtain ⟨M1, hM1⟩ : ∃ M1, M1 = R1 := ⟨_, rfl⟩
                  have HM1 : Hid (Mrg L1 R1 M1) := by show Mrg _ _ _; rw [e1, hM1]; exact Mrg.left sR1
                  have hm1 : M1.length ≤ L1.length + R1.length ∧ L1.length + R1.length ≤ M1.length := by have := HM1.out.len; omega
                  have HS6 : Hid (SS w0 b c (x ++ M1 ++ L2 ++ R2 ++ y) w1) := by show SS _ _ _ _ _; have := HS5.out; rw [e1] at this; rw [hM1]; simpa using this
                  clear e1 hM1
                  have e2 : R2 = [] := List.eq_nil_of_length_eq_zero (by omega)
                  obtain ⟨M2, hM2⟩ : ∃ M2, M2 = L2 := ⟨_, rfl⟩
                  have HM2 : Hid (Mrg L2 R2 M2) := by show Mrg _ _ _; rw [e2, hM2]; exact Mrg.right sL2
                  have HS7 : Hid (SS w0 b c (x ++ (M1 ++ M2) ++ y) w1) := by show SS _ _ _ _ _; have := HS6.out; rw [e2] at this; rw [hM2]; simpa using this
                  clear e2 hM2
                  have HMM : Hid (Mrg L R (M1 ++ M2)) := by show Mrg _ _ _; rw [HLL.out.1, HLL.out.2]; exact Mrg.split HSP.out.1 HSP.out.2.1 HSP.out.2.2.1 HSP.out.2.2.2 HM1.out HM2.out
                  clear HM1 HM2
                  go_wp2
                  go_end0
                  exact ⟨rfl, _, HMM.out, by first | exact HS7.out | (simpa using HS7.out)⟩
              · try (exfalso; omega)
                all_goals
                  have y1 : j ≤ a := by omega
                  have y2 : j < m := by omega
                  have y3 : m < E := by omega
                  have y4 : E < e := by omega
                  clear ja jm me ee
                  have z1 : (j : Int) < (m : Int) := by omega
                  have z2 : (m : Int) < (E : Int) := by omega
                  have z3 : ¬ (a : Int) < (j : Int) := by omega
                  have z4 : (j : Int) < (mid : Int) := by omega
                  have z5 : (mid : Int) < (E : Int) := by omega
                  have z6 : (E : Int) < (e : Int) := by omega
                  have kR := rot_any b c j m E cap (x ++ L1) L2 R1 (R2 ++ y) w0 wr HS4.out (by rw [List.length_append]; omega) (by omega) (by omega) (by omega) (by omega) (by simp; omega) T (by simp; omega)
                  go_wp2_with fail
                  refine kR.mono ?_
                  rintro r w1 ⟨rfl, hs⟩
                  have HS5 : Hid (SS w0 b c (x ++ L1 ++ R1 ++ (L2 ++ R2 ++ y)) w1) := by show SS _ _ _ _ _; simpa using hs
                  clear hs kR HS4
                  have e1 : L1 = [] := List.eq_nil_of_length_eq_zero (by omega)
                  obtain ⟨M1, hM1⟩ : ∃ M1, M1 = R1 := ⟨_, rfl⟩
                  have HM1 : Hid (Mrg L1 R1 M1) := by show Mrg _ _ _; rw [e1, hM1]; exact Mrg.left sR1
                  have hm1 : M1.length ≤ L1.length + R1.length ∧ L1.length + R1.length ≤ M1.length := by have := HM1.out.len; omega
                  have HS6 : Hid (SS w0 b c (x ++ M1 ++ L2 ++ R2 ++ y) w1) := by show SS _ _ _ _ _; have := HS5.out; rw [e1] at this; rw [hM1]; simpa using this
                  clear e1 hM1
                  have kB := HIH.out b c mid E e cap T (x ++ M1) L2 R2 y w0 w1 (by omega) HS6.out sL2 sR2 (by omega) (by omega) (by rw [List.length_append]; omega) (by omega) (by omega) (by simp; omega) hl
                  go_wp2_with fail
                  refine kB.mono ?_
                  rintro r w3 ⟨rfl, M2, hM2, hs⟩
                  have HM2 : Hid (Mrg L2 R2 M2) := hM2
                  have HS7 : Hid (SS w0 b c (x ++ (M1 ++ M2) ++ y) w3) := by show SS _ _ _ _ _; simpa using hs
                  clear hs kB hM2
                  have HMM : Hid (Mrg L R (M1 ++ M2)) := by show Mrg _ _ _; rw [HLL.out.1, HLL.out.2]; exact Mrg.split HSP.out.1 HSP.out.2.1 HSP.out.2.2.1 HSP.out.2.2.2 HM1.out HM2.out
                  clear HM1 HM2
                  go_wp2
                  go_end0
                  exact ⟨rfl, _, HMM.out, by first | exact HS7.out | (simpa using HS7.out)⟩
        · rcases Nat.eq_or_lt_of_le hjm with jm | jm
          · rcases Nat.eq_or_lt_of_le hEm with me | me
            · rcases Nat.eq_or_lt_of_le hEe with ee | ee
              · exfalso; omega
              · try (exfalso; omega)
                all_goals
                  have y1 : a < j := by omega
                  have y2 : m ≤ j := by omega
                  have y3 : E ≤ m := by omega
                  have y4 : E < e := by omega
                  clear ja jm me ee
                  have z1 : ¬ (j : Int) < (m : Int) := by omega
                  have z2 : ¬ (m : Int) < (E : Int) := by omega
                  have z3 : (a : Int) < (j : Int) := by omega
                  have z4 : ¬ (j : Int) < (mid : Int) := by omega
                  have z5 : ¬ (mid : Int) < (E : Int) := by omega
                  have z6 : (E : Int) < (e : Int) := by omega
                  have e0 : L2 = [] := List.eq_nil_of_length_eq_zero (by omega)
                  have HS5 : Hid (SS w0 b c (x ++ L1 ++ R1 ++ (L2 ++ R2 ++ y)) wr) := by show SS _ _ _ _ _; have := HS4.out; rw [e0] at this ⊢; simpa using this
                  clear e0
                  have e1 : R1 = [] := List.eq_nil_of_length_eq_zero (by omega)
                  obtain ⟨M1, hM1⟩ : ∃ M1, M1 = L1 := ⟨_, rfl⟩
                  have HM1 : Hid (Mrg L1 R1 M1) := by show Mrg _ _ _; rw [e1, hM1]; exact Mrg.right sL1
                  have hm1 : M1.length ≤ L1.length + R1.length ∧ L1.length + R1.length ≤ M1.length := by have := HM1.out.len; omega
                  have HS6 : Hid (SS w0 b c (x ++ M1 ++ L2 ++ R2 ++ y) wr) := by show SS _ _ _ _ _; have := HS5.out; rw [e1] at this; rw [hM1]; simpa using this
                  clear e1 hM1
                  have e2 : L2 = [] := List.eq_nil_of_length_eq_zero (by omega)
                  obtain ⟨M2, hM2⟩ : ∃ M2, M2 = R2 := ⟨_, rfl⟩
                  have HM2 : Hid (Mrg L2 R2 M2) := by show Mrg _ _ _; rw [e2, hM2]; exact Mrg.left sR2
                  have HS7 : Hid (SS w0 b c (x ++ (M1 ++ M2) ++ y) wr) := by show SS _ _ _ _ _; have := HS6.out; rw [e2] at this; rw [hM2]; simpa using this
                  clear e2 hM2
                  have HMM : Hid (Mrg L R (M1 ++ M2)) := by show Mrg _ _ _; rw [HLL.out.1, HLL.out.2]; exact Mrg.split HSP.out.1 HSP.out.2.1 HSP.out.2.2.1 HSP.out.2.2.2 HM1.out HM2.out
                  clear HM1 HM2
                  go_wp2
                  go_end0
                  exact ⟨rfl, _, HMM.out, by first | exact HS7.out | (simpa using HS7.out)⟩
            · rcases Nat.eq_or_lt_of_le hEe with ee | ee
              · exfalso; omega
              · try (exfalso; omega)
                all_goals
                  have y1 : a < j := by omega
                  have y2 : m ≤ j := by omega
                  have y3 : m < E := by omega
                  have y4 : E < e := by omega
                  clear ja jm me ee
                  have z1 : ¬ (j : Int) < (m : Int) := by omega
                  have z2 : (m : Int) < (E : Int) := by omega
                  have z3 : (a : Int) < (j : Int) := by omega
                  have z4 : (j : Int) < (mid : Int) := by omega
                  have z5 : ¬ (mid : Int) < (E : Int) := by omega
                  have z6 : (E : Int) < (e : Int) := by omega
                  have e0 : L2 = [] := List.eq_nil_of_length_eq_zero (by omega)
                  have HS5 : Hid (SS w0 b c (x ++ L1 ++ R1 ++ (L2 ++ R2 ++ y)) wr) := by show SS _ _ _ _ _; have := HS4.out; rw [e0] at this ⊢; simpa using this
                  clear e0
                  have kA := HIH.out b c a j mid cap T x L1 R1 (L2 ++ R2 ++ y) w0 wr (by omega) HS5.out sL1 sR1 (by omega) (by omega) (by omega) (by omega) (by omega) (by simp; omega) hl
                  go_wp2_with fail
                  refine kA.mono ?_
                  rintro r w2 ⟨rfl, M1, hM1, hs⟩
                  have HM1 : Hid (Mrg L1 R1 M1) := hM1
                  have hm1 : M1.length ≤ L1.length + R1.length ∧ L1.length + R1.length ≤ M1.length := by have := hM1.len; omega
                  have HS6 : Hid (SS w0 b c (x ++ M1 ++ L2 ++ R2 ++ y) w2) := by show SS _ _ _ _ _; simpa using hs
                  clear hs kA hM1
                  have e2 : L2 = [] := List.eq_nil_of_length_eq_zero (by omega)
                  obtain ⟨M2, hM2⟩ : ∃ M2, M2 = R2 := ⟨_, rfl⟩
                  have HM2 : Hid (Mrg L2 R2 M2) := by show Mrg _ _ _; rw [e2, hM2]; exact Mrg.left sR2
                  have HS7 : Hid (SS w0 b c (x ++ (M1 ++ M2) ++ y) w2) := by show SS _ _ _ _ _; have := HS6.out; rw [e2] at this; rw [hM2]; simpa using this
                  clear e2 hM2
                  have HMM : Hid (Mrg L R (M1 ++ M2)) := by show Mrg _ _ _; rw [HLL.out.1, HLL.out.2]; exact Mrg.split HSP.out.1 HSP.out.2.1 HSP.out.2.2.1 HSP.out.2.2.2 HM1.out HM2.out
                  clear HM1 HM2
                  go_wp2
                  go_end0
                  exact ⟨rfl, _, HMM.out, by first | exact HS7.out | (simpa using HS7.out)⟩
          · rcases Nat.eq_or_lt_of_le hEm with me | me
            · rcases Nat.eq_or_lt_of_le hEe with ee | ee
              · exfalso; omega
              · try (exfalso; omega)
                all_goals
                  have y1 : a < j := by omega
                  have y2 : j < m := by omega
                  have y3 : E ≤ m := by omega
                  have y4 : E < e := by omega
                  clear ja jm me ee
                  have z1 : (j : Int) < (m : Int) := by omega
                  have z2 : ¬ (m : Int) < (E : Int) := by omega
                  have z3 : (a : Int) < (j : Int) := by omega
                  have z4 : ¬ (j : Int) < (mid : Int) := by omega
                  have z5 : (mid : Int) < (E : Int) := by omega
                  have z6 : (E : Int) < (e : Int) := by omega
                  have e0 : R1 = [] := List.eq_nil_of_length_eq_zero (by omega)
                  have HS5 : Hid (SS w0 b c (x ++ L1 ++ R1 ++ (L2 ++ R2 ++ y)) wr) := by show SS _ _ _ _ _; have := HS4.out; rw [e0] at this ⊢; simpa using this
                  clear e0
                  have e1 : R1 = [] := List.eq_nil_of_length_eq_zero (by omega)
                  obtain ⟨M1, hM1⟩ : ∃ M1, M1 = L1 := ⟨_, rfl⟩
                  have HM1 : Hid (Mrg L1 R1 M1) := by show Mrg _ _ _; rw [e1, hM1]; exact Mrg.right sL1
                  have hm1 : M1.length ≤ L1.length + R1.length ∧ L1.length + R1.length ≤ M1.length := by have := HM1.out.len; omega
                  have HS6 : Hid (SS w0 b c (x ++ M1 ++ L2 ++ R2 ++ y) wr) := by show SS _ _ _ _ _; have := HS5.out; rw [e1] at this; rw [hM1]; simpa using this
                  clear e1 hM1
                  have kB := HIH.out b c mid E e cap T (x ++ M1) L2 R2 y w0 wr (by omega) HS6.out sL2 sR2 (by omega) (by omega) (by rw [List.length_append]; omega) (by omega) (by omega) (by simp; omega) hl
                  go_wp2_with fail
                  refine kB.mono ?_
                  rintro r w3 ⟨rfl, M2, hM2, hs⟩
                  have HM2 : Hid (Mrg L2 R2 M2) := hM2
                  have HS7 : Hid (SS w0 b c (x ++ (M1 ++ M2) ++ y) w3) := by show SS _ _ _ _ _; simpa using hs
                  clear hs kB hM2
                  have HMM : Hid (Mrg L R (M1 ++ M2)) := by show Mrg _ _ _; rw [HLL.out.1, HLL.out.2]; exact Mrg.split HSP.out.1 HSP.out.2.1 HSP.out.2.2.1 HSP.out.2.2.2 HM1.out HM2.out
                  clear HM1 HM2
                  go_wp2
                  go_end0
                  exact ⟨rfl, _, HMM.out, by first | exact HS7.out | (simpa using HS7.out)⟩
            · rcases Nat.eq_or_lt_of_le hEe with ee | ee
              · try (exfalso; omega)
                all_goals
                  have y1 : a < j := by omega
                  have y2 : j < m := by omega
                  have y3 : m < E := by omega
                  have y4 : e ≤ E := by omega
                  clear ja jm me ee
                  have z1 : (j : Int) < (m : Int) := by omega
                  have z2 : (m : Int) < (E : Int) := by omega
                  have z3 : (a : Int) < (j : Int) := by omega
                  have z4 : (j : Int) < (mid : Int) := by omega
                  have z5 : (mid : Int) < (E : Int) := by omega
                  have z6 : ¬ (E : Int) < (e : Int) := by omega
                  have kR := rot_any b c j m E cap (x ++ L1) L2 R1 (R2 ++ y) w0 wr HS4.out (by rw [List.length_append]; omega) (by omega) (by omega) (by omega) (by omega) (by simp; omega) T (by simp; omega)
                  go_wp2_with fail
                  refine kR.mono ?_
                  rintro r w1 ⟨rfl, hs⟩
                  have HS5 : Hid (SS w0 b c (x ++ L1 ++ R1 ++ (L2 ++ R2 ++ y)) w1) := by show SS _ _ _ _ _; simpa using hs
                  clear hs kR HS4
                  have kA := HIH.out b c a j mid cap T x L1 R1 (L2 ++ R2 ++ y) w0 w1 (by omega) HS5.out sL1 sR1 (by omega) (by omega) (by omega) (by omega) (by omega) (by simp; omega) hl
                  go_wp2_with fail
                  refine kA.mono ?_
                  rintro r w2 ⟨rfl, M1, hM1, hs⟩
                  have HM1 : Hid (Mrg L1 R1 M1) := hM1
                  have hm1 : M1.length ≤ L1.length + R1.length ∧ L1.length + R1.length ≤ M1.length := by have := hM1.len; omega
                  have HS6 : Hid (SS w0 b c (x ++ M1 ++ L2 ++ R2 ++ y) w2) := by show SS _ _ _ _ _; simpa using hs
                  clear hs kA hM1
                  have e2 : R2 = [] := List.eq_nil_of_length_eq_zero (by omega)
                  obtain ⟨M2, hM2⟩ : ∃ M2, M2 = L2 := ⟨_, rfl⟩
                  have HM2 : Hid (Mrg L2 R2 M2) := by show Mrg _ _ _; rw [e2, hM2]; exact Mrg.right sL2
                  have HS7 : Hid (SS w0 b c (x ++ (M1 ++ M2) ++ y) w2) := by show SS _ _ _ _ _; have := HS6.out; rw [e2] at this; rw [hM2]; simpa using this
                  clear e2 hM2
                  have HMM : Hid (Mrg L R (M1 ++ M2)) := by show Mrg _ _ _; rw [HLL.out.1, HLL.out.2]; exact Mrg.split HSP.out.1 HSP.out.2.1 HSP.out.2.2.1 HSP.out.2.2.2 HM1.out HM2.out
                  clear HM1 HM2
                  go_wp2
                  go_end0
                  exact ⟨rfl, _, HMM.out, by first | exact HS7.out | (simpa using HS7.out)⟩
              · try (exfalso; omega)
                all_goals
                  have y1 : a < j := by omega
                  have y2 : j < m := by omega
                  have y3 : m < E := by omega
                  have y4 : E < e := by omega
                  clear ja jm me ee
                  have z1 : (j : Int) < (m : Int) := by omega
                  have z2 : (m : Int) < (E : Int) := by omega
                  have z3 : (a : Int) < (j : Int) := by omega
                  have z4 : (j : Int) < (mid : Int) := by omega
                  have z5 : (mid : Int) < (E : Int) := by omega
                  have z6 : (E : Int) < (e : Int) := by omega
                  have kR := rot_any b c j m E cap (x ++ L1) L2 R1 (R2 ++ y) w0 wr HS4.out (by rw [List.length_append]; omega) (by omega) (by omega) (by omega) (by omega) (by simp; omega) T (by simp; omega)
                  go_wp2_with fail
                  refine kR.mono ?_
                  rintro r w1 ⟨rfl, hs⟩
                  have HS5 : Hid (SS w0 b c (x ++ L1 ++ R1 ++ (L2 ++ R2 ++ y)) w1) := by show SS _ _ _ _ _; simpa using hs
                  clear hs kR HS4
                  have kA := HIH.out b c a j mid cap T x L1 R1 (L2 ++ R2 ++ y) w0 w1 (by omega) HS5.out sL1 sR1 (by omega) (by omega) (by omega) (by omega) (by omega) (by simp; omega) hl
                  go_wp2_with fail
                  refine kA.mono ?_
                  rintro r w2 ⟨rfl, M1, hM1, hs⟩
                  have HM1 : Hid (Mrg L1 R1 M1) := hM1
                  have hm1 : M1.length ≤ L1.length + R1.length ∧ L1.length + R1.length ≤ M1.length := by have := hM1.len; omega
                  have HS6 : Hid (SS w0 b c (x ++ M1 ++ L2 ++ R2 ++ y) w2) := by show SS _ _ _ _ _; simpa using hs
                  clear hs kA hM1
                  have kB := HIH.out b c mid E e cap T (x ++ M1) L2 R2 y w0 w2 (by omega) HS6.out sL2 sR2 (by omega) (by omega) (by rw [List.length_append]; omega) (by omega) (by omega) (by simp; omega) hl
                  go_wp2_with fail
                  refine kB.mono ?_
                  rintro r w3 ⟨rfl, M2, hM2, hs⟩
                  have HM2 : Hid (Mrg L2 R2 M2) := hM2
                  have HS7 : Hid (SS w0 b c (x ++ (M1 ++ M2) ++ y) w3) := by show SS _ _ _ _ _; simpa using hs
                  clear hs kB hM2
                  have HMM : Hid (Mrg L R (M1 ++ M2)) := by show Mrg _ _ _; rw [HLL.out.1, HLL.out.2]; exact Mrg.split HSP.out.1 HSP.out.2.1 HSP.out.2.2.1 HSP.out.2.2.2 HM1.out HM2.out
                  clear HM1 HM2
                  go_wp2
                  go_end0
                  exact ⟨rfl, _, HMM.out, by first | exact HS7.out | (simpa using HS7.out)⟩
  · have hmz1 : ¬ (mid : Int) < (m : Int) := by omega
    have HST : Hid ((a : Int) = (s0 : Int) ∧ (m : Int) = (r0 : Int)) := by show _ ∧ _; omega
    clear hss hrr
    go_enter Try.func30, Try.ntmps30
    go_wp2
    go_loopw [20, 21] (fun iv jv wr => ∃ i j : Nat, iv = .int .i64 i ∧ jv = .int .i64 j ∧ s0 ≤ i ∧ i ≤ j ∧ j ≤ r0 ∧ Hid ((i = s0 ∨ (el L (i - 1 - a)).i ≤ (el R (P - (i - 1) - m)).i) ∧ (j = r0 ∨ (el R (P - j - m)).i < (el L (j - a)).i)) ∧ Hid (SS w0 b c (x ++ L ++ R ++ y) wr)) (fun iv jv _ => (intOf jv).toNat - (intOf iv).toNat)
    case atStart => exact ⟨s0, r0, by first | rfl | (rw [← HST.out.1]), by first | rfl | (rw [← HST.out.2]), Nat.le_refl _, hs0r, Nat.le_refl _, ⟨.inl rfl, .inl rfl⟩, HS0⟩
    case round =>
      clear HS0
      obtain ⟨i, j, rfl, rfl, hi, hij, hj, HP, HS⟩ := hrel
      by_cases hlt : i < j
      · have hltz : (i : Int) < (j : Int) := by omega
        obtain ⟨h, hh⟩ : ∃ h, (i + j) / 2 = h := ⟨_, rfl⟩
        have hhz : ((i : Int) + (j : Int)) / 2 = (h : Int) := by omega
        have hhi : i ≤ h := by omega
        have hhj : h < j := by omega
        have hcq := HCQ.out h (by omega) (by omega)
        obtain ⟨ph, hph⟩ : ∃ ph, P - h = ph := ⟨_, rfl⟩
        have hphz : (P : Int) - (h : Int) = (ph : Int) := by omega
        have hwp : IntKind.i64.wrap ((P : Int) - (h : Int)) = (ph : Int) := by rw [IntKind.wrap_i64]; omega
        have hne := bel_some wr
        obtain ⟨q, hq⟩ : ∃ q, el L (h - a) = q := ⟨_, rfl⟩
        obtain ⟨v, hv⟩ : ∃ q, el R (ph - m) = q := ⟨_, rfl⟩
        obtain ⟨q1, q2, q3, q4⟩ := HX.out
        obtain ⟨p1, p2, _, _⟩ := HS.out.cells (i := h) (by omega)
        obtain ⟨p3, p4, _, _⟩ := HS.out.cells (i := ph) (by omega)
        rw [HEl.out h (by omega) (by omega), hq] at p1 p2
        rw [HEr.out ph (by omega) (by omega), hv] at p3 p4
        have c1 := fun p : Bel wr => p.cell p1
        have c2 := fun p : Bel wr => p.cell p2
        have c3 := fun p : Bel wr => p.cell p3
        have c4 := fun p : Bel wr => p.cell p4
        have HCF : Hid (∀ p : Bel wr, CF p.W c) := fun p => HS.out.cf.below p.h
        have HB : Hid (∀ p : Bel wr, SS w0 b c (x ++ L ++ R ++ y) p.W) := fun p => HS.out.below p.h
        have hhl : (h : Int) < (T : Int) := by omega
        have hpl : (ph : Int) < (T : Int) := by omega
        have HPH : Hid (P - h = ph) := hph
        clear p1 p2 p3 p4 hh hph q1 q2 q3 q4 hphz
        have hsg := cmpI_neg v.i q.i
        obtain ⟨g, hg⟩ : ∃ g, cmpI v.i q.i = g := ⟨_, rfl⟩
        have kL := fun W hW => less_any v q c W hW
        rw [hg] at kL hsg
        have HSG : Hid (g < 0 ↔ v.i < q.i) := hsg
        clear hg hsg
        by_cases hgn : g < 0
        · have HP2 : Hid ((i = s0 ∨ (el L (i - 1 - a)).i ≤ (el R (P - (i - 1) - m)).i) ∧ (h = r0 ∨ (el R (P - h - m)).i < (el L (h - a)).i)) := ⟨HP.out.1, .inr (by rw [hq, HPH.out, hv]; exact HSG.out.1 hgn)⟩
          go_wp2_with fail
          refine wp_region_below (by kernel_rfl) (by kernel_rfl) ?_
          repeat (go_big_quiet_step ((go_at_call 24; exact bel_of (kL _ (HCF.out _)))))
          refine wpQuiet_nil ?_
          intro _ hw'
          obtain ⟨pq, hw''⟩ := hw'
          subst hw''
          have HS3 : Hid (SS w0 b c (x ++ L ++ R ++ y) pq.W) := HB.out pq
          clear c1 c2 c3 c4
          go_wp2
          go_roundw
          case rel => exact ⟨i, h, rfl, rfl, hi, by omega, by omega, HP2, HS3⟩
          case measure => simp [intOf]; omega
        · have HP2 : Hid ((h + 1 = s0 ∨ (el L (h + 1 - 1 - a)).i ≤ (el R (P - (h + 1 - 1) - m)).i) ∧ (j = r0 ∨ (el R (P - j - m)).i < (el L (j - a)).i)) := ⟨.inr (by rw [Nat.add_sub_cancel, hq, HPH.out, hv]; have := mt HSG.out.2 hgn; omega), HP.out.2⟩
          have hgd : decide (g < 0) = false := decide_eq_false hgn
          go_wp2_with fail
          refine wp_region_below (by kernel_rfl) (by kernel_rfl) ?_
          repeat (go_big_quiet_step ((go_at_call 24; exact bel_of (kL _ (HCF.out _)))))
          refine wpQuiet_nil ?_
          intro _ hw'
          obtain ⟨pq, hw''⟩ := hw'
          subst hw''
          have HS3 : Hid (SS w0 b c (x ++ L ++ R ++ y) pq.W) := HB.out pq
          clear c1 c2 c3 c4
          go_wp2
          go_roundw
          case rel => exact ⟨h + 1, j, by go_num, rfl, by omega, by omega, hj, HP2, HS3⟩
          case measure => simp [intOf]; omega
      · have hji : j = i := by omega
        subst hji
        obtain ⟨E, hE⟩ : ∃ E, N - j = E := ⟨_, rfl⟩
        have hEz : (N : Int) - (j : Int) = (E : Int) := by have := HNE.out; omega
        obtain ⟨k1, k2, k3, k4⟩ := HNE.out
        obtain ⟨q1, q2, q3, q4⟩ := HX.out
        have hEm : m ≤ E := by have := HSR.out; omega
        have hEe : E ≤ e := by have := HSR.out; omega
        have hja : a ≤ j := by omega
        have hjm : j ≤ m := by omega
        have hF := sym_facts hLR.out.1 hLR.out.2 (t1 := j - a) (t2 := E - m) (by omega) (by omega)
          (by
            rcases HP.out.1 with hp | hp
            · have := HSR.out; omega
            · by_cases h0 : j = a
              · left; omega
              · right; right
                rw [show j - a - 1 = j - 1 - a from by omega, show E - m = P - (j - 1) - m from by omega]; exact hp)
          (by
            rcases HP.out.2 with hp | hp
            · have := HSR.out; omega
            · by_cases h0 : E = m
              · right; left; omega
              · right; right
                rw [show E - m - 1 = P - j - m from by omega]; exact hp)
        have hsL := hLR.out.1
        have hsR := hLR.out.2
        obtain ⟨L1, hL1⟩ : ∃ l, L.take (j - a) = l := ⟨_, rfl⟩
        obtain ⟨L2, hL2'⟩ : ∃ l, L.drop (j - a) = l := ⟨_, rfl⟩
        obtain ⟨R1, hR1⟩ : ∃ l, R.take (E - m) = l := ⟨_, rfl⟩
        obtain ⟨R2, hR2'⟩ : ∃ l, R.drop (E - m) = l := ⟨_, rfl⟩
        have hLL : L = L1 ++ L2 := by rw [← hL1, ← hL2', List.take_append_drop]
        have hRR : R = R1 ++ R2 := by rw [← hR1, ← hR2', List.take_append_drop]
        have n1 : L1.length = j - a := by rw [← hL1, List.length_take]; omega
        have n2 : L2.length = m - j := by rw [← hL2', List.length_drop]; omega
        have n3 : R1.length = E - m := by rw [← hR1, List.length_take]; omega
        have n4 : R2.length = e - E := by rw [← hR2', List.length_drop]; omega
        rw [hL1, hL2', hR1, hR2'] at hF
        rw [hLL] at hsL
        rw [hRR] at hsR
        obtain ⟨sL1, sL2, _⟩ := hsL.parts
        obtain ⟨sR1, sR2, _⟩ := hsR.parts
        have HSP : Hid (Srt (L1 ++ L2) ∧ Srt (R1 ++ R2) ∧ (∀ u ∈ L1, ∀ v ∈ R2, u.i ≤ v.i) ∧ (∀ u ∈ L2, ∀ v ∈ R1, v.i < u.i)) := ⟨hsL, hsR, hF.1, hF.2⟩
        have HS4 : Hid (SS w0 b c (x ++ L1 ++ L2 ++ R1 ++ (R2 ++ y)) wr) := by
          show SS _ _ _ _ _
          have := HS.out
          rw [hLL, hRR] at this
          simpa using this
        have HLL : Hid (L = L1 ++ L2 ∧ R = R1 ++ R2) := ⟨hLL, hRR⟩
        have hTT : x.length + L1.length + L2.length + R1.length + R2.length + y.length ≤ T ∧ T ≤ x.length + L1.length + L2.length + R1.length + R2.length + y.length := by rw [← q4, hLL, hRR]; simp; omega
        have hln : L1.length + L2.length + R1.length + R2.length ≤ n + 1 := by rw [hLL, hRR, List.length_append, List.length_append] at hn; omega
        have hxa : x.length ≤ a ∧ a ≤ x.length := by omega
        have hjE : j + E ≤ N ∧ N ≤ j + E := by omega
        have hmN : mid + m ≤ N ∧ N ≤ mid + m := by omega
        have nn : (L1.length + a ≤ j ∧ j ≤ L1.length + a) ∧ (L2.length + j ≤ m ∧ m ≤ L2.length + j) ∧ (R1.length + m ≤ E ∧ E ≤ R1.length + m) ∧ (R2.length + E ≤ e ∧ e ≤ R2.length + E) := by omega
        clear n1 n2 n3 n4 hE hF hL1 hL2' hR1 hR2' hLL hRR hsL hsR HP HS k1 k2 k3 k4 q1 q2 q3 q4
        have hltz : ¬ (j : Int) < (j : Int) := by omega
        rcases Nat.eq_or_lt_of_le hja with ja | ja
        · rcases Nat.eq_or_lt_of_le hjm with jm | jm
          · rcases Nat.eq_or_lt_of_le hEm with me | me
            · rcases Nat.eq_or_lt_of_le hEe with ee | ee
              · exfalso; omega
              · exfalso; omega
            · rcases Nat.eq_or_lt_of_le hEe with ee | ee
              · exfalso; omega
              · exfalso; omega
          · rcases Nat.eq_or_lt_of_le hEm with me | me
            · rcases Nat.eq_or_lt_of_le hEe with ee | ee
              · exfalso; omega
              · exfalso; omega
            · rcases Nat.eq_or_lt_of_le hEe with ee | ee
              · try (exfalso; omega)
                all_goals
                  have y1 : j ≤ a := by omega
                  have y2 : j < m := by omega
                  have y3 : m < E := by omega
                  have y4 : e ≤ E := by omega
                  clear ja jm me ee
                  have z1 : (j : Int) < (m : Int) := by omega
                  have z2 : (m : Int) < (E : Int) := by omega
                  have z3 : ¬ (a : Int) < (j : Int) := by omega
                  have z4 : (j : Int) < (mid : Int) := by omega
                  have z5 : (mid : Int) < (E : Int) := by omega
                  have z6 : ¬ (E : Int) < (e : Int) := by omega
                  have kR := rot_any b c j m E cap (x ++ L1) L2 R1 (R2 ++ y) w0 wr HS4.out (by rw [List.length_append]; omega) (by omega) (by omega) (by omega) (by omega) (by simp; omega) T (by simp; omega)
                  go_wp2_with fail
                  refine kR.mono ?_
                  rintro r w1 ⟨rfl, hs⟩
                  have HS5 : Hid (SS w0 b c (x ++ L1 ++ R1 ++ (L2 ++ R2 ++ y)) w1) := by show SS _ _ _ _ _; simpa using hs
                  clear hs kR HS4
                  have e1 : L1 = [] := List.eq_nil_of_length_eq_zero (by omega)
                  obtain ⟨M1, hM1⟩ : ∃ M1, M1 = R1 := ⟨_, rfl⟩
                  have HM1 : Hid (Mrg L1 R1 M1) := by show Mrg _ _ _; rw [e1, hM1]; exact Mrg.left sR1
                  have hm1 : M1.length ≤ L1.length + R1.length ∧ L1.length + R1.length ≤ M1.length := by have := HM1.out.len; omega
                  have HS6 : Hid (SS w0 b c (x ++ M1 ++ L2 ++ R2 ++ y) w1) := by show SS _ _ _ _ _; have := HS5.out; rw [e1] at this; rw [hM1]; simpa using this
                  clear e1 hM1
                  have e2 : R2 = [] := List.eq_nil_of_length_eq_zero (by omega)
                  obtain ⟨M2, hM2⟩ : ∃ M2, M2 = L2 := ⟨_, rfl⟩
                  have HM2 : Hid (Mrg L2 R2 M2) := by show Mrg _ _ _; rw [e2, hM2]; exact Mrg.right sL2
                  have HS7 : Hid (SS w0 b c (x ++ (M1 ++ M2) ++ y) w1) := by show SS _ _ _ _ _; have := HS6.out; rw [e2] at this; rw [hM2]; simpa using this
                  clear e2 hM2
                  have HMM : Hid (Mrg L R (M1 ++ M2)) := by show Mrg _ _ _; rw [HLL.out.1, HLL.out.2]; exact Mrg.split HSP.out.1 HSP.out.2.1 HSP.out.2.2.1 HSP.out.2.2.2 HM1.out HM2.out
                  clear HM1 HM2
                  go_wp2
                  go_end0
                  exact ⟨rfl, _, HMM.out, by first | exact HS7.out | (simpa using HS7.out)⟩
              · try (exfalso; omega)
                all_goals
                  have y1 : j ≤ a := by omega
                  have y2 : j < m := by omega
                  have y3 : m < E := by omega
                  have y4 : E < e := by omega
                  clear ja jm me ee
                  have z1 : (j : Int) < (m : Int) := by omega
                  have z2 : (m : Int) < (E : Int) := by omega
                  have z3 : ¬ (a : Int) < (j : Int) := by omega
                  have z4 : (j : Int) < (mid : Int) := by omega
                  have z5 : (mid : Int) < (E : Int) := by omega
                  have z6 : (E : Int) < (e : Int) := by omega
                  have kR := rot_any b c j m E cap (x ++ L1) L2 R1 (R2 ++ y) w0 wr HS4.out (by rw [List.length_append]; omega) (by omega) (by omega) (by omega) (by omega) (by simp; omega) T (by simp; omega)
                  go_wp2_with fail
                  refine kR.mono ?_
                  rintro r w1 ⟨rfl, hs⟩
                  have HS5 : Hid (SS w0 b c (x ++ L1 ++ R1 ++ (L2 ++ R2 ++ y)) w1) := by show SS _ _ _ _ _; simpa using hs
                  clear hs kR HS4
                  have e1 : L1 = [] := List.eq_nil_of_length_eq_zero (by omega)
                  obtain ⟨M1, hM1⟩ : ∃ M1, M1 = R1 := ⟨_, rfl⟩
                  have HM1 : Hid (Mrg L1 R1 M1) := by show Mrg _ _ _; rw [e1, hM1]; exact Mrg.left sR1
                  have hm1 : M1.length ≤ L1.length + R1.length ∧ L1.length + R1.length ≤ M1.length := by have := HM1.out.len; omega
                  have HS6 : Hid (SS w0 b c (x ++ M1 ++ L2 ++ R2 ++ y) w1) := by show SS _ _ _ _ _; have := HS5.out; rw [e1] at this; rw [hM1]; simpa using this
                  clear e1 hM1
                  have kB := HIH.out b c mid E e cap T (x ++ M1) L2 R2 y w0 w1 (by omega) HS6.out sL2 sR2 (by omega) (by omega) (by rw [List.length_append]; omega) (by omega) (by omega) (by simp; omega) hl
                  go_wp2_with fail
                  refine kB.mono ?_
                  rintro r w3 ⟨rfl, M2, hM2, hs⟩
                  have HM2 : Hid (Mrg L2 R2 M2) := hM2
                  have HS7 : Hid (SS w0 b c (x ++ (M1 ++ M2) ++ y) w3) := by show SS _ _ _ _ _; simpa using hs
                  clear hs kB hM2
                  have HMM : Hid (Mrg L R (M1 ++ M2)) := by show Mrg _ _ _; rw [HLL.out.1, HLL.out.2]; exact Mrg.split HSP.out.1 HSP.out.2.1 HSP.out.2.2.1 HSP.out.2.2.2 HM1.out HM2.out
                  clear HM1 HM2
                  go_wp2
                  go_end0
                  exact ⟨rfl, _, HMM.out, by first | exact HS7.out | (simpa using HS7.out)⟩
        · rcases Nat.eq_or_lt_of_le hjm with jm | jm
          · rcases Nat.eq_or_lt_of_le hEm with me | me
            · rcases Nat.eq_or_lt_of_le hEe with ee | ee
              · exfalso; omega
              · try (exfalso; omega)
                all_goals
                  have y1 : a < j := by omega
                  have y2 : m ≤ j := by omega
                  have y3 : E ≤ m := by omega
                  have y4 : E < e := by omega
                  clear ja jm me ee
                  have z1 : ¬ (j : Int) < (m : Int) := by omega
                  have z2 : ¬ (m : Int) < (E : Int) := by omega
                  have z3 : (a : Int) < (j : Int) := by omega
                  have z4 : ¬ (j : Int) < (mid : Int) := by omega
                  have z5 : ¬ (mid : Int) < (E : Int) := by omega
                  have z6 : (E : Int) < (e : Int) := by omega
                  have e0 : L2 = [] := List.eq_nil_of_length_eq_zero (by omega)
                  have HS5 : Hid (SS w0 b c (x ++ L1 ++ R1 ++ (L2 ++ R2 ++ y)) wr) := by show SS _ _ _ _ _; have := HS4.out; rw [e0] at this ⊢; simpa using this
                  clear e0
                  have e1 : R1 = [] := List.eq_nil_of_length_eq_zero (by omega)
                  obtain ⟨M1, hM1⟩ : ∃ M1, M1 = L1 := ⟨_, rfl⟩
                  have HM1 : Hid (Mrg L1 R1 M1) := by show Mrg _ _ _; rw [e1, hM1]; exact Mrg.right sL1
                  have hm1 : M1.length ≤ L1.length + R1.length ∧ L1.length + R1.length ≤ M1.length := by have := HM1.out.len; omega
                  have HS6 : Hid (SS w0 b c (x ++ M1 ++ L2 ++ R2 ++ y) wr) := by show SS _ _ _ _ _; have := HS5.out; rw [e1] at this; rw [hM1]; simpa using this
                  clear e1 hM1
                  have e2 : L2 = [] := List.eq_nil_of_length_eq_zero (by omega)
                  obtain ⟨M2, hM2⟩ : ∃ M2, M2 = R2 := ⟨_, rfl⟩
                  have HM2 : Hid (Mrg L2 R2 M2) := by show Mrg _ _ _; rw [e2, hM2]; exact Mrg.left sR2
                  have HS7 : Hid (SS w0 b c (x ++ (M1 ++ M2) ++ y) wr) := by show SS _ _ _ _ _; have := HS6.out; rw [e2] at this; rw [hM2]; simpa using this
                  clear e2 hM2
                  have HMM : Hid (Mrg L R (M1 ++ M2)) := by show Mrg _ _ _; rw [HLL.out.1, HLL.out.2]; exact Mrg.split HSP.out.1 HSP.out.2.1 HSP.out.2.2.1 HSP.out.2.2.2 HM1.out HM2.out
                  clear HM1 HM2
                  go_wp2
                  go_end0
                  exact ⟨rfl, _, HMM.out, by first | exact HS7.out | (simpa using HS7.out)⟩
            · rcases Nat.eq_or_lt_of_le hEe with ee | ee
              · exfalso; omega
              · try (exfalso; omega)
                all_goals
                  have y1 : a < j := by omega
                  have y2 : m ≤ j := by omega
                  have y3 : m < E := by omega
                  have y4 : E < e := by omega
                  clear ja jm me ee
                  have z1 : ¬ (j : Int) < (m : Int) := by omega
                  have z2 : (m : Int) < (E : Int) := by omega
                  have z3 : (a : Int) < (j : Int) := by omega
                  have z4 : (j : Int) < (mid : Int) := by omega
                  have z5 : ¬ (mid : Int) < (E : Int) := by omega
                  have z6 : (E : Int) < (e : Int) := by omega
                  have e0 : L2 = [] := List.eq_nil_of_length_eq_zero (by omega)
                  have HS5 : Hid (SS w0 b c (x ++ L1 ++ R1 ++ (L2 ++ R2 ++ y)) wr) := by show SS _ _ _ _ _; have := HS4.out; rw [e0] at this ⊢; simpa using this
                  clear e0
                  have kA := HIH.out b c a j mid cap T x L1 R1 (L2 ++ R2 ++ y) w0 wr (by omega) HS5.out sL1 sR1 (by omega) (by omega) (by omega) (by omega) (by omega) (by simp; omega) hl
                  go_wp2_with fail
                  refine kA.mono ?_
                  rintro r w2 ⟨rfl, M1, hM1, hs⟩
                  have HM1 : Hid (Mrg L1 R1 M1) := hM1
                  have hm1 : M1.length ≤ L1.length + R1.length ∧ L1.length + R1.length ≤ M1.length := by have := hM1.len; omega
                  have HS6 : Hid (SS w0 b c (x ++ M1 ++ L2 ++ R2 ++ y) w2) := by show SS _ _ _ _ _; simpa using hs
                  clear hs kA hM1
                  have e2 : L2 = [] := List.eq_nil_of_length_eq_zero (by omega)
                  obtain ⟨M2, hM2⟩ : ∃ M2, M2 = R2 := ⟨_, rfl⟩
                  have HM2 : Hid (Mrg L2 R2 M2) := by show Mrg _ _ _; rw [e2, hM2]; exact Mrg.left sR2
                  have HS7 : Hid (SS w0 b c (x ++ (M1 ++ M2) ++ y) w2) := by show SS _ _ _ _ _; have := HS6.out; rw [e2] at this; rw [hM2]; simpa using this
                  clear e2 hM2
                  have HMM : Hid (Mrg L R (M1 ++ M2)) := by show Mrg _ _ _; rw [HLL.out.1, HLL.out.2]; exact Mrg.split HSP.out.1 HSP.out.2.1 HSP.out.2.2.1 HSP.out.2.2.2 HM1.out HM2.out
                  clear HM1 HM2
                  go_wp2
                  go_end0
                  exact ⟨rfl, _, HMM.out, by first | exact HS7.out | (simpa using HS7.out)⟩
          · rcases Nat.eq_or_lt_of_le hEm with me | me
            · rcases Nat.eq_or_lt_of_le hEe with ee | ee
              · exfalso; omega
              · try (exfalso; omega)
                all_goals
                  have y1 : a < j := by omega
                  have y2 : j < m := by omega
                  have y3 : E ≤ m := by omega
                  have y4 : E < e := by omega
                  clear ja jm me ee
                  have z1 : (j : Int) < (m : Int) := by omega
                  have z2 : ¬ (m : Int) < (E : Int) := by omega
                  have z3 : (a : Int) < (j : Int) := by omega
                  have z4 : ¬ (j : Int) < (mid : Int) := by omega
                  have z5 : (mid : Int) < (E : Int) := by omega
                  have z6 : (E : Int) < (e : Int) := by omega
                  have e0 : R1 = [] := List.eq_nil_of_length_eq_zero (by omega)
                  have HS5 : Hid (SS w0 b c (x ++ L1 ++ R1 ++ (L2 ++ R2 ++ y)) wr) := by show SS _ _ _ _ _; have := HS4.out; rw [e0] at this ⊢; simpa using this
                  clear e0
                  have e1 : R1 = [] := List.eq_nil_of_length_eq_zero (by omega)
                  obtain ⟨M1, hM1⟩ : ∃ M1, M1 = L1 := ⟨_, rfl⟩
                  have HM1 : Hid (Mrg L1 R1 M1) := by show Mrg _ _ _; rw [e1, hM1]; exact Mrg.right sL1
                  have hm1 : M1.length ≤ L1.length + R1.length ∧ L1.length + R1.length ≤ M1.length := by have := HM1.out.len; omega
                  have HS6 : Hid (SS w0 b c (x ++ M1 ++ L2 ++ R2 ++ y) wr) := by show SS _ _ _ _ _; have := HS5.out; rw [e1] at this; rw [hM1]; simpa using this
                  clear e1 hM1
                  have kB := HIH.out b c mid E e cap T (x ++ M1) L2 R2 y w0 wr (by omega) HS6.out sL2 sR2 (by omega) (by omega) (by rw [List.length_append]; omega) (by omega) (by omega) (by simp; omega) hl
                  go_wp2_with fail
                  refine kB.mono ?_
                  rintro r w3 ⟨rfl, M2, hM2, hs⟩
                  have HM2 : Hid (Mrg L2 R2 M2) := hM2
                  have HS7 : Hid (SS w0 b c (x ++ (M1 ++ M2) ++ y) w3) := by show SS _ _ _ _ _; simpa using hs
                  clear hs kB hM2
                  have HMM : Hid (Mrg L R (M1 ++ M2)) := by show Mrg _ _ _; rw [HLL.out.1, HLL.out.2]; exact Mrg.split HSP.out.1 HSP.out.2.1 HSP.out.2.2.1 HSP.out.2.2.2 HM1.out HM2.out
                  clear HM1 HM2
                  go_wp2
                  go_end0
                  exact ⟨rfl, _, HMM.out, by first | exact HS7.out | (simpa using HS7.out)⟩
            · rcases Nat.eq_or_lt_of_le hEe with ee | ee
              · try (exfalso; omega)
                all_goals
                  have y1 : a < j := by omega
                  have y2 : j < m := by omega
                  have y3 : m < E := by omega
                  have y4 : e ≤ E := by omega
                  clear ja jm me ee
                  have z1 : (j : Int) < (m : Int) := by omega
                  have z2 : (m : Int) < (E : Int) := by omega
                  have z3 : (a : Int) < (j : Int) := by omega
                  have z4 : (j : Int) < (mid : Int) := by omega
                  have z5 : (mid : Int) < (E : Int) := by omega
                  have z6 : ¬ (E : Int) < (e : Int) := by omega
                  have kR := rot_any b c j m E cap (x ++ L1) L2 R1 (R2 ++ y) w0 wr HS4.out (by rw [List.length_append]; omega) (by omega) (by omega) (by omega) (by omega) (by simp; omega) T (by simp; omega)
                  go_wp2_with fail
                  refine kR.mono ?_
                  rintro r w1 ⟨rfl, hs⟩
                  have HS5 : Hid (SS w0 b c (x ++ L1 ++ R1 ++ (L2 ++ R2 ++ y)) w1) := by show SS _ _ _ _ _; simpa using hs
                  clear hs kR HS4
                  have kA := HIH.out b c a j mid cap T x L1 R1 (L2 ++ R2 ++ y) w0 w1 (by omega) HS5.out sL1 sR1 (by omega) (by omega) (by omega) (by omega) (by omega) (by simp; omega) hl
                  go_wp2_with fail
                  refine kA.mono ?_
                  rintro r w2 ⟨rfl, M1, hM1, hs⟩
                  have HM1 : Hid (Mrg L1 R1 M1) := hM1
                  have hm1 : M1.length ≤ L1.length + R1.length ∧ L1.length + R1.length ≤ M1.length := by have := hM1.len; omega
                  have HS6 : Hid (SS w0 b c (x ++ M1 ++ L2 ++ R2 ++ y) w2) := by show SS _ _ _ _ _; simpa using hs
                  clear hs kA hM1
                  have e2 : R2 = [] := List.eq_nil_of_length_eq_zero (by omega)
                  obtain ⟨M2, hM2⟩ : ∃ M2, M2 = L2 := ⟨_, rfl⟩
                  have HM2 : Hid (Mrg L2 R2 M2) := by show Mrg _ _ _; rw [e2, hM2]; exact Mrg.right sL2
                  have HS7 : Hid (SS w0 b c (x ++ (M1 ++ M2) ++ y) w2) := by show SS _ _ _ _ _; have := HS6.out; rw [e2] at this; rw [hM2]; simpa using this
                  clear e2 hM2
                  have HMM : Hid (Mrg L R (M1 ++ M2)) := by show Mrg _ _ _; rw [HLL.out.1, HLL.out.2]; exact Mrg.split HSP.out.1 HSP.out.2.1 HSP.out.2.2.1 HSP.out.2.2.2 HM1.out HM2.out
                  clear HM1 HM2
                  go_wp2
                  go_end0
                  exact ⟨rfl, _, HMM.out, by first | exact HS7.out | (simpa using HS7.out)⟩
              · try (exfalso; omega)
                all_goals
                  have y1 : a < j := by omega
                  have y2 : j < m := by omega
                  have y3 : m < E := by omega
                  have y4 : E < e := by omega
                  clear ja jm me ee
                  have z1 : (j : Int) < (m : Int) := by omega
                  have z2 : (m : Int) < (E : Int) := by omega
                  have z3 : (a : Int) < (j : Int) := by omega
                  have z4 : (j : Int) < (mid : Int) := by omega
                  have z5 : (mid : Int) < (E : Int) := by omega
                  have z6 : (E : Int) < (e : Int) := by omega
                  have kR := rot_any b c j m E cap (x ++ L1) L2 R1 (R2 ++ y) w0 wr HS4.out (by rw [List.length_append]; omega) (by omega) (by omega) (by omega) (by omega) (by simp; omega) T (by simp; omega)
                  go_wp2_with fail
                  refine kR.mono ?_
                  rintro r w1 ⟨rfl, hs⟩
                  have HS5 : Hid (SS w0 b c (x ++ L1 ++ R1 ++ (L2 ++ R2 ++ y)) w1) := by show SS _ _ _ _ _; simpa using hs
                  clear hs kR HS4
                  have kA := HIH.out b c a j mid cap T x L1 R1 (L2 ++ R2 ++ y) w0 w1 (by omega) HS5.out sL1 sR1 (by omega) (by omega) (by omega) (by omega) (by omega) (by simp; omega) hl
                  go_wp2_with fail
                  refine kA.mono ?_
                  rintro r w2 ⟨rfl, M1, hM1, hs⟩
                  have HM1 : Hid (Mrg L1 R1 M1) := hM1
                  have hm1 : M1.length ≤ L1.length + R1.length ∧ L1.length + R1.length ≤ M1.length := by have := hM1.len; omega
                  have HS6 : Hid (SS w0 b c (x ++ M1 ++ L2 ++ R2 ++ y) w2) := by show SS _ _ _ _ _; simpa using hs
                  clear hs kA hM1
                  have kB := HIH.out b c mid E e cap T (x ++ M1) L2 R2 y w0 w2 (by omega) HS6.out sL2 sR2 (by omega) (by omega) (by rw [List.length_append]; omega) (by omega) (by omega) (by simp; omega) hl
                  go_wp2_with fail
                  refine kB.mono ?_
                  rintro r w3 ⟨rfl, M2, hM2, hs⟩
                  have HM2 : Hid (Mrg L2 R2 M2) := hM2
                  have HS7 : Hid (SS w0 b c (x ++ (M1 ++ M2) ++ y) w3) := by show SS _ _ _ _ _; simpa using hs
                  clear hs kB hM2
                  have HMM : Hid (Mrg L R (M1 ++ M2)) := by show Mrg _ _ _; rw [HLL.out.1, HLL.out.2]; exact Mrg.split HSP.out.1 HSP.out.2.1 HSP.out.2.2.1 HSP.out.2.2.2 HM1.out HM2.out
                  clear HM1 HM2
                  go_wp2
                  go_end0
                  exact ⟨rfl, _, HMM.out, by first | exact HS7.out | (simpa using HS7.out)⟩
end Go.Proofs.Ytaeokecodejpdaa
