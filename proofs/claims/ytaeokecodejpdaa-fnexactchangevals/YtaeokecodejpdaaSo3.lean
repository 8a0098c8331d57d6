/- What symMergeCmpFunc does to a row of validators where one side is a single one. Conditions: rows that a machine can hold. -/
import Derived.Test.YtaeokecodejpdaaSo2
namespace Go.Proofs.Ytaeokecodejpdaa
open Go.RowKit
open Num
set_option linter.unusedVariables false
set_option maxHeartbeats 3200000 in
set_option maxRecDepth 100000 in
theorem sym_left (b c a m e cap T : Nat) (x : List V) (v : V) (R y : List V) (w0 w : World) (h : SS w0 b c (x ++ [v] ++ R ++ y) w) (hR : Srt R) (hR0 : 0 < R.length)
    (h1 : x.length = a) (h2 : a + 1 = m) (h3 : m + R.length = e) (hT : (x ++ [v] ++ R ++ y).length = T) (hl : T ≤ 2097152) :
    Calls Try.prog 30 #[.slice (some ⟨b, 0, none⟩) T cap, .int .i64 (a : Int), .int .i64 (m : Int), .int .i64 (e : Int), lessOf c] w fun r w' => r = .returned (.tuple #[]) ∧ ∃ M, Mrg [v] R M ∧ SS w0 b c (x ++ M ++ y) w' := by
  have hlen : x.length + 1 + R.length + y.length = T := by rw [← hT]; simp; omega
  have ma : (m : Int) - (a : Int) = 1 := by omega
  have ha2 : a ≤ 2097152 := by omega
  have he2 : e ≤ T := by omega
  have HS0 : Hid (SS w0 b c (x ++ [v] ++ R ++ y) w) := h
  have HR : Hid (Srt R) := hR
  have HX : Hid (x.length = a ∧ m = a + 1 ∧ e = a + 1 + R.length ∧ x.length + 1 + R.length + y.length = T) := ⟨h1, h2.symm, by omega, hlen⟩
  have HEa : Hid (el (x ++ [v] ++ R ++ y) a = v) := by
    show _ = _
    rw [← h1, List.append_assoc, List.append_assoc, el_right (Nat.le_refl _), Nat.sub_self]; rfl
  have HEk : Hid (∀ k, m ≤ k → k < e → el (x ++ [v] ++ R ++ y) k = el R (k - m)) := fun k hk1 hk2 => by
    rw [List.append_assoc, el_right (by simp; omega), el_left (by simp; omega)]
    congr 1
    simp; omega
  have hme : m < e := by omega
  have hal : a < T := by omega
  clear h hR h1 h2 h3 hT hlen
  go_enter Try.func30, Try.ntmps30
  go_wp2
  go_loopw [10, 11] (fun iv jv wr => ∃ i j : Nat, iv = .int .i64 i ∧ jv = .int .i64 j ∧ m ≤ i ∧ i ≤ j ∧ j ≤ e ∧ Hid ((i = m ∨ (el R (i - 1 - m)).i < v.i) ∧ (j = e ∨ v.i ≤ (el R (j - m)).i)) ∧ Hid (SS w0 b c (x ++ [v] ++ R ++ y) wr)) (fun iv jv _ => (intOf jv).toNat - (intOf iv).toNat)
  case atStart => exact ⟨m, e, rfl, rfl, Nat.le_refl _, by omega, Nat.le_refl _, ⟨.inl rfl, .inl rfl⟩, HS0⟩
  case round =>
    clear HS0
    obtain ⟨i, j, rfl, rfl, hi, hij, hj, HP, HS⟩ := hrel
    by_cases hlt : i < j
    · have hltz : (i : Int) < (j : Int) := by omega
      obtain ⟨h, hh⟩ : ∃ h, (i + j) / 2 = h := ⟨_, rfl⟩
      have hhz : ((i : Int) + (j : Int)) / 2 = (h : Int) := by omega
      have hhi : i ≤ h := by omega
      have hhj : h < j := by omega
      have hne := bel_some wr
      obtain ⟨q, hq⟩ : ∃ q, el R (h - m) = q := ⟨_, rfl⟩
      have hTl : (x ++ [v] ++ R ++ y).length = T := by obtain ⟨q1, q2, q3, q4⟩ := HX.out; simp; omega
      obtain ⟨p1, p2, _, _⟩ := HS.out.cells (i := h) (by omega)
      obtain ⟨p3, p4, _, _⟩ := HS.out.cells (i := a) (by omega)
      rw [HEk.out h (by omega) (by omega), hq] at p1 p2
      rw [HEa.out] at p3 p4
      have c1 := fun p : Bel wr => p.cell p1
      have c2 := fun p : Bel wr => p.cell p2
      have c3 := fun p : Bel wr => p.cell p3
      have c4 := fun p : Bel wr => p.cell p4
      have HCF : Hid (∀ p : Bel wr, CF p.W c) := fun p => HS.out.cf.below p.h
      have HB : Hid (∀ p : Bel wr, SS w0 b c (x ++ [v] ++ R ++ y) p.W) := fun p => HS.out.below p.h
      have hhl : (h : Int) < (T : Int) := by omega
      have hal' : (a : Int) < (T : Int) := by omega
      clear p1 p2 p3 p4 hTl hh
      have hsg := cmpI_neg q.i v.i
      obtain ⟨g, hg⟩ : ∃ g, cmpI q.i v.i = g := ⟨_, rfl⟩
      have kL := fun W hW => less_any q v c W hW
      rw [hg] at kL hsg
      have HSG : Hid (g < 0 ↔ q.i < v.i) := hsg
      clear hg hsg
      go_wp2_with fail
      refine wp_region_below (by kernel_rfl) (by kernel_rfl) ?_
      repeat (go_big_quiet_step ((go_at_call 24; exact bel_of (kL _ (HCF.out _)))))
      refine wpQuiet_nil ?_
      intro _ hw'
      obtain ⟨pq, hw''⟩ := hw'
      subst hw''
      have HS2 := HB.out pq
      have HS3 : Hid (SS w0 b c (x ++ [v] ++ R ++ y) pq.W) := HS2
      clear HS2 c1 c2 c3 c4
      by_cases hgn : g < 0
      · have HP2 : Hid ((h + 1 = m ∨ (el R (h + 1 - 1 - m)).i < v.i) ∧ (j = e ∨ v.i ≤ (el R (j - m)).i)) := ⟨.inr (by rw [Nat.add_sub_cancel, hq]; exact HSG.out.1 hgn), HP.out.2⟩
        go_wp2
        go_roundw
        case rel => exact ⟨h + 1, j, by go_num, rfl, by omega, by omega, hj, HP2, HS3⟩
        case measure => simp [intOf]; omega
      · have HP2 : Hid ((i = m ∨ (el R (i - 1 - m)).i < v.i) ∧ (h = e ∨ v.i ≤ (el R (h - m)).i)) := ⟨HP.out.1, .inr (by rw [hq]; have := mt HSG.out.2 hgn; omega)⟩
        go_wp2
        go_roundw
        case rel => exact ⟨i, h, rfl, rfl, hi, by omega, by omega, HP2, HS3⟩
        case measure => simp [intOf]; omega
    · have hltz : ¬ (i : Int) < (j : Int) := by omega
      have hji : j = i := by omega
      subst hji
      obtain ⟨t, ht⟩ : ∃ t, j - m = t := ⟨_, rfl⟩
      have HR1 : Hid (∀ u ∈ R.take t, u.i < v.i) := by
        refine take_below HR.out (by obtain ⟨q1, q2, q3, q4⟩ := HX.out; omega) ?_
        rcases HP.out.1 with hp | hp
        · left; omega
        · rw [show j - 1 - m = t - 1 from by omega] at hp; exact .inr hp
      have HR2 : Hid (∀ u ∈ R.drop t, v.i ≤ u.i) := by
        refine drop_from HR.out ?_
        rcases HP.out.2 with hp | hp
        · left; obtain ⟨q1, q2, q3, q4⟩ := HX.out; omega
        · rw [ht] at hp; exact .inr hp
      have HM : Hid (Mrg [v] R (R.take t ++ v :: R.drop t)) := by
        have := Mrg.one_left (e := v) (R1 := R.take t) (R2 := R.drop t) (by rw [List.take_append_drop]; exact HR.out) HR1.out HR2.out
        rw [List.take_append_drop] at this
        exact this
      have hat : a + t + 1 = j := by obtain ⟨q1, q2, q3, q4⟩ := HX.out; omega
      have htR : t ≤ R.length := by obtain ⟨q1, q2, q3, q4⟩ := HX.out; omega
      have hjz : (j : Int) - 1 = (a : Int) + (t : Int) := by omega
      clear HP HR1 HR2 ht hltz
      have hltz : ¬ (j : Int) < (j : Int) := by omega
      go_wp2
      go_loopw [13] (fun kv wr => ∃ k : Nat, kv = .int .i64 ((a : Int) + (k : Int)) ∧ k ≤ t ∧ Hid (SS w0 b c (x ++ R.take k ++ v :: (R.take t).drop k ++ R.drop t ++ y) wr)) (fun kv _ => a + t - (intOf kv).toNat)
      case atStart =>
        refine ⟨0, by simp, Nat.zero_le _, ?_⟩
        show SS _ _ _ _ _
        have e : x ++ R.take 0 ++ v :: (R.take t).drop 0 ++ R.drop t ++ y = x ++ [v] ++ R ++ y := by
          simp only [List.take_zero, List.drop_zero, List.append_nil]
          conv => rhs; rw [← List.take_append_drop t R]
          simp
        rw [e]; exact HS.out
      case round =>
        obtain ⟨k, rfl, hk, HK⟩ := hrel
        by_cases hkt : k < t
        · have hktz : (a : Int) + (k : Int) < (a : Int) + (t : Int) := by omega
          obtain ⟨q1, q2, q3, q4⟩ := HX.out
          have hlA : (x ++ R.take k).length = a + k := by rw [List.length_append, List.length_take]; omega
          obtain ⟨u, hu⟩ : ∃ u, el R k = u := ⟨_, rfl⟩
          have hdr : (R.take t).drop k = u :: (R.take t).drop (k + 1) := by
            rw [drop_el (by rw [List.length_take]; omega)]
            congr 1
            rw [← hu]
            unfold el
            rw [List.getD_eq_getElem?_getD, List.getD_eq_getElem?_getD, List.getElem?_take_of_lt (by omega)]
          have e0 : x ++ R.take k ++ v :: (R.take t).drop k ++ R.drop t ++ y = (x ++ R.take k) ++ v :: [] ++ u :: ((R.take t).drop (k + 1) ++ R.drop t ++ y) := by rw [hdr]; simp
          have e1 : (x ++ R.take k) ++ u :: [] ++ v :: ((R.take t).drop (k + 1) ++ R.drop t ++ y) = x ++ R.take (k + 1) ++ v :: (R.take t).drop (k + 1) ++ R.drop t ++ y := by
            rw [take_el (show k < R.length by omega), hu]; simp
          have HXC : Hid (xch (x ++ R.take k ++ v :: (R.take t).drop k ++ R.drop t ++ y) (a + k) (a + k + 1) = x ++ R.take (k + 1) ++ v :: (R.take t).drop (k + 1) ++ R.drop t ++ y) := by
            show _ = _
            have := xch_app (x ++ R.take k) v [] u ((R.take t).drop (k + 1) ++ R.drop t ++ y)
            rw [hlA, List.length_nil, Nat.add_zero] at this
            rw [e0, this, e1]
          have hlen : (x ++ R.take k ++ v :: (R.take t).drop k ++ R.drop t ++ y).length = T := by
            simp; omega
          have HEv : Hid (el (x ++ R.take k ++ v :: (R.take t).drop k ++ R.drop t ++ y) (a + k) = v ∧ el (x ++ R.take k ++ v :: (R.take t).drop k ++ R.drop t ++ y) (a + k + 1) = u) := by
            rw [e0]
            constructor
            · rw [List.append_assoc, el_right (by omega), hlA, Nat.sub_self]; rfl
            · rw [el_right (by simp at hlA ⊢; omega)]
              rw [show a + k + 1 - (x ++ R.take k ++ v :: []).length = 0 from by rw [List.length_append, hlA]; simp]; rfl
          have hi1 : a + k < T := by omega
          have hi2 : a + k + 1 < T := by omega
          obtain ⟨n1, hn1⟩ : ∃ n, a + k = n := ⟨_, rfl⟩
          rw [hn1] at HXC HEv hi1 hi2
          obtain ⟨p1, p2, f1, f2⟩ := HK.out.cells (i := n1) (by omega)
          obtain ⟨p3, p4, f3, f4⟩ := HK.out.cells (i := n1 + 1) (by omega)
          rw [HEv.out.1] at p1 p2
          rw [HEv.out.2] at p3 p4
          have HS5 : Hid (SS w0 b c (x ++ R.take (k + 1) ++ v :: (R.take t).drop (k + 1) ++ R.drop t ++ y) ((((wr.setCell ⟨b, n1 * 2, none⟩ (.int .i64 u.i)).setCell ⟨b, n1 * 2 + 1, none⟩ (.int .i64 u.p)).setCell ⟨b, (n1 + 1) * 2, none⟩ (.int .i64 v.i)).setCell ⟨b, (n1 + 1) * 2 + 1, none⟩ (.int .i64 v.p)).drew) := by
            have := HK.out.exch (i := n1) (j := n1 + 1) (by omega) (by omega) HEv.out.1 HEv.out.2
            rw [HXC.out] at this
            exact this
          have hz1 : (a : Int) + (k : Int) = (n1 : Int) := by omega
          have hw1 : IntKind.i64.wrap ((n1 : Int) + 1) = ((n1 + 1 : Nat) : Int) := by rw [IntKind.wrap_i64]; omega
          obtain ⟨n2, hn2⟩ : ∃ n, n1 + 1 = n := ⟨_, rfl⟩
          have hnn : n1 ≠ n2 := by omega
          have HN2 : Hid (n1 + 1 = n2) := hn2
          rw [hn2] at p3 p4 f3 f4 HS5 hw1
          have hl1 : (n1 : Int) < (T : Int) := by omega
          have hl2 : (n2 : Int) < (T : Int) := by omega
          rw [hz1] at hktz ⊢
          have HZ : Hid ((a : Int) + (k : Int) = (n1 : Int)) := hz1
          clear hz1 e0 e1 hlen hlA hdr hu q1 q2 q3 q4 hn1 hn2 HEv HXC HK hi1 hi2
          go_wp2_with fail
          go_region
          clear p1 p2 p3 p4 f1 f2 f3 f4
          go_wp2
          go_roundw
          case rel => exact ⟨k + 1, by have := HZ.out; have := HN2.out; congr 1; omega, by omega, HS5⟩
          case measure => have := HZ.out; have := HN2.out; simp [intOf]; omega
        · have hktz : ¬ (a : Int) + (k : Int) < (a : Int) + (t : Int) := by omega
          have hkk : k = t := by omega
          subst hkk
          have HF : Hid (SS w0 b c (x ++ (R.take k ++ v :: R.drop k) ++ y) wr) := by
            show SS _ _ _ _ _
            have := HK.out
            rw [List.drop_eq_nil_of_le (by rw [List.length_take]; omega)] at this
            simpa using this
          go_wp2
          (try simp only [Exit.inBlock, Exit.then])
          refine bodyPost_ret (results_none rfl _ _ _) rfl ?_
          exact ⟨rfl, _, HM.out, by first | exact HF.out | (rw [← List.append_assoc]; exact HF.out)⟩
set_option maxHeartbeats 3200000 in
set_option maxRecDepth 100000 in
theorem sym_right (b c a m e cap T : Nat) (x L : List V) (v : V) (y : List V) (w0 w : World) (h : SS w0 b c (x ++ L ++ [v] ++ y) w) (hL : Srt L) (hL0 : 1 < L.length)
    (h1 : x.length = a) (h2 : a + L.length = m) (h3 : m + 1 = e) (hT : (x ++ L ++ [v] ++ y).length = T) (hl : T ≤ 2097152) :
    Calls Try.prog 30 #[.slice (some ⟨b, 0, none⟩) T cap, .int .i64 (a : Int), .int .i64 (m : Int), .int .i64 (e : Int), lessOf c] w fun r w' => r = .returned (.tuple #[]) ∧ ∃ M, Mrg L [v] M ∧ SS w0 b c (x ++ M ++ y) w' := by
  have hlen : x.length + L.length + 1 + y.length = T := by rw [← hT]; simp; omega
  have ma : ¬ (m : Int) - (a : Int) = 1 := by omega
  have ma' : ((m : Int) - (a : Int) == 1) = false := beq_eq_false_iff_ne.2 ma
  have em : (e : Int) - (m : Int) = 1 := by omega
  have ha2 : a ≤ 2097152 := by omega
  have he2 : e ≤ T := by omega
  have HS0 : Hid (SS w0 b c (x ++ L ++ [v] ++ y) w) := h
  have HL : Hid (Srt L) := hL
  have HX : Hid (x.length = a ∧ m = a + L.length ∧ e = m + 1 ∧ x.length + L.length + 1 + y.length = T) := ⟨h1, h2.symm, h3.symm, hlen⟩
  have HEm : Hid (el (x ++ L ++ [v] ++ y) m = v) := by
    show _ = _
    rw [List.append_assoc, el_right (by simp; omega), show m - (x ++ L).length = 0 from by simp; omega]; rfl
  have HEk : Hid (∀ k, a ≤ k → k < m → el (x ++ L ++ [v] ++ y) k = el L (k - a)) := fun k hk1 hk2 => by
    rw [List.append_assoc, List.append_assoc, el_right (by omega), el_left (by omega), h1]
  have ham : a < m := by omega
  have hmT : m < T := by omega
  clear h hL h1 h2 h3 hT hlen
  go_enter Try.func30, Try.ntmps30
  go_wp2
  go_loopw [14, 15] (fun iv jv wr => ∃ i j : Nat, iv = .int .i64 i ∧ jv = .int .i64 j ∧ a ≤ i ∧ i ≤ j ∧ j ≤ m ∧ Hid ((i = a ∨ (el L (i - 1 - a)).i ≤ v.i) ∧ (j = m ∨ v.i < (el L (j - a)).i)) ∧ Hid (SS w0 b c (x ++ L ++ [v] ++ y) wr)) (fun iv jv _ => (intOf jv).toNat - (intOf iv).toNat)
  case atStart => exact ⟨a, m, rfl, rfl, Nat.le_refl _, by omega, Nat.le_refl _, ⟨.inl rfl, .inl rfl⟩, HS0⟩
  case round =>
    clear HS0
    obtain ⟨i, j, rfl, rfl, hi, hij, hj, HP, HS⟩ := hrel
    by_cases hlt : i < j
    · have hltz : (i : Int) < (j : Int) := by omega
      obtain ⟨h, hh⟩ : ∃ h, (i + j) / 2 = h := ⟨_, rfl⟩
      have hhz : ((i : Int) + (j : Int)) / 2 = (h : Int) := by omega
      have hhi : i ≤ h := by omega
      have hhj : h < j := by omega
      have hne := bel_some wr
      obtain ⟨q, hq⟩ : ∃ q, el L (h - a) = q := ⟨_, rfl⟩
      have hTl : (x ++ L ++ [v] ++ y).length = T := by obtain ⟨q1, q2, q3, q4⟩ := HX.out; simp; omega
      obtain ⟨p1, p2, _, _⟩ := HS.out.cells (i := h) (by omega)
      obtain ⟨p3, p4, _, _⟩ := HS.out.cells (i := m) (by omega)
      rw [HEk.out h (by omega) (by omega), hq] at p1 p2
      rw [HEm.out] at p3 p4
      have c1 := fun p : Bel wr => p.cell p1
      have c2 := fun p : Bel wr => p.cell p2
      have c3 := fun p : Bel wr => p.cell p3
      have c4 := fun p : Bel wr => p.cell p4
      have HCF : Hid (∀ p : Bel wr, CF p.W c) := fun p => HS.out.cf.below p.h
      have HB : Hid (∀ p : Bel wr, SS w0 b c (x ++ L ++ [v] ++ y) p.W) := fun p => HS.out.below p.h
      have hhl : (h : Int) < (T : Int) := by omega
      have hal' : (m : Int) < (T : Int) := by omega
      clear p1 p2 p3 p4 hTl hh
      have hsg := cmpI_neg v.i q.i
      obtain ⟨g, hg⟩ : ∃ g, cmpI v.i q.i = g := ⟨_, rfl⟩
      have kL := fun W hW => less_any v q c W hW
      rw [hg] at kL hsg
      have HSG : Hid (g < 0 ↔ v.i < q.i) := hsg
      clear hg hsg
      by_cases hgn : g < 0
      · have HP2 : Hid ((i = a ∨ (el L (i - 1 - a)).i ≤ v.i) ∧ (h = m ∨ v.i < (el L (h - a)).i)) := ⟨HP.out.1, .inr (by rw [hq]; exact HSG.out.1 hgn)⟩
        go_wp2_with fail
        refine wp_region_below (by kernel_rfl) (by kernel_rfl) ?_
        repeat (go_big_quiet_step ((go_at_call 24; exact bel_of (kL _ (HCF.out _)))))
        refine wpQuiet_nil ?_
        intro _ hw'
        obtain ⟨pq, hw''⟩ := hw'
        subst hw''
        have HS3 : Hid (SS w0 b c (x ++ L ++ [v] ++ y) pq.W) := HB.out pq
        clear c1 c2 c3 c4
        go_wp2
        go_roundw
        case rel => exact ⟨i, h, rfl, rfl, hi, by omega, by omega, HP2, HS3⟩
        case measure => simp [intOf]; omega
      · have HP2 : Hid ((h + 1 = a ∨ (el L (h + 1 - 1 - a)).i ≤ v.i) ∧ (j = m ∨ v.i < (el L (j - a)).i)) := ⟨.inr (by rw [Nat.add_sub_cancel, hq]; have := mt HSG.out.2 hgn; omega), HP.out.2⟩
        have hgd : decide (g < 0) = false := decide_eq_false hgn
        go_wp2_with fail
        refine wp_region_below (by kernel_rfl) (by kernel_rfl) ?_
        repeat (go_big_quiet_step ((go_at_call 24; exact bel_of (kL _ (HCF.out _)))))
        refine wpQuiet_nil ?_
        intro _ hw'
        obtain ⟨pq, hw''⟩ := hw'
        subst hw''
        have HS3 : Hid (SS w0 b c (x ++ L ++ [v] ++ y) pq.W) := HB.out pq
        clear c1 c2 c3 c4
        go_wp2
        go_roundw
        case rel => exact ⟨h + 1, j, by go_num, rfl, by omega, by omega, hj, HP2, HS3⟩
        case measure => simp [intOf]; omega
    · have hji : j = i := by omega
      subst hji
      obtain ⟨t, ht⟩ : ∃ t, j - a = t := ⟨_, rfl⟩
      have HL1 : Hid (∀ u ∈ L.take t, u.i ≤ v.i) := by
        refine take_upto HL.out (by obtain ⟨q1, q2, q3, q4⟩ := HX.out; omega) ?_
        rcases HP.out.1 with hp | hp
        · left; omega
        · rw [show j - 1 - a = t - 1 from by omega] at hp; exact .inr hp
      have HL2 : Hid (∀ u ∈ L.drop t, v.i < u.i) := by
        refine drop_above HL.out ?_
        rcases HP.out.2 with hp | hp
        · left; obtain ⟨q1, q2, q3, q4⟩ := HX.out; omega
        · rw [ht] at hp; exact .inr hp
      have HM : Hid (Mrg L [v] (L.take t ++ v :: L.drop t)) := by
        have := Mrg.one_right (e := v) (L1 := L.take t) (L2 := L.drop t) (by rw [List.take_append_drop]; exact HL.out) HL1.out HL2.out
        rw [List.take_append_drop] at this
        exact this
      have hat : a + t = j := by omega
      have htL : t ≤ L.length := by obtain ⟨q1, q2, q3, q4⟩ := HX.out; omega
      obtain ⟨d, hd⟩ : ∃ d, (L.drop t).length = d := ⟨_, rfl⟩
      have hdm : j + d = m := by obtain ⟨q1, q2, q3, q4⟩ := HX.out; rw [← hd, List.length_drop]; omega
      have hmz : (m : Int) = (j : Int) + (d : Int) := by omega
      clear HP HL1 HL2 ht
      have hltz : ¬ (j : Int) < (j : Int) := by omega
      go_wp2
      go_loopw [17] (fun kv wr => ∃ k : Nat, kv = .int .i64 ((j : Int) + (k : Int)) ∧ k ≤ d ∧ Hid (SS w0 b c (x ++ L.take t ++ (L.drop t).take k ++ v :: (L.drop t).drop k ++ y) wr)) (fun kv _ => (intOf kv).toNat)
      case atStart =>
        refine ⟨d, by first | (rw [← hmz]) | rfl | (congr 1), Nat.le_refl _, ?_⟩
        show SS _ _ _ _ _
        have e : x ++ L.take t ++ (L.drop t).take d ++ v :: (L.drop t).drop d ++ y = x ++ L ++ [v] ++ y := by
          rw [show (L.drop t).take d = L.drop t from List.take_of_length_le (by omega), show (L.drop t).drop d = [] from List.drop_eq_nil_of_le (by omega), List.append_assoc x, List.take_append_drop]
        rw [e]; exact HS.out
      case round =>
        obtain ⟨k, rfl, hk, HK⟩ := hrel
        obtain ⟨q1, q2, q3, q4⟩ := HX.out
        have hDl : (L.drop t).length = L.length - t := List.length_drop ..
        by_cases hkt : 0 < k
        · have hktz : (j : Int) < (j : Int) + (k : Int) := by omega
          obtain ⟨k', rfl⟩ : ∃ k', k = k' + 1 := ⟨k - 1, by omega⟩
          obtain ⟨u, hu⟩ : ∃ u, el (L.drop t) k' = u := ⟨_, rfl⟩
          have hlA : (x ++ L.take t ++ (L.drop t).take k').length = j + k' := by rw [List.length_append, List.length_append, List.length_take, List.length_take]; omega
          have e0 : x ++ L.take t ++ (L.drop t).take (k' + 1) ++ v :: (L.drop t).drop (k' + 1) ++ y = (x ++ L.take t ++ (L.drop t).take k') ++ u :: [] ++ v :: ((L.drop t).drop (k' + 1) ++ y) := by
            rw [take_el (show k' < (L.drop t).length by omega), hu]; simp
          have e1 : (x ++ L.take t ++ (L.drop t).take k') ++ v :: [] ++ u :: ((L.drop t).drop (k' + 1) ++ y) = x ++ L.take t ++ (L.drop t).take k' ++ v :: (L.drop t).drop k' ++ y := by
            rw [drop_el (show k' < (L.drop t).length by omega), hu]; simp
          have HXC : Hid (xch (x ++ L.take t ++ (L.drop t).take (k' + 1) ++ v :: (L.drop t).drop (k' + 1) ++ y) (j + k' + 1) (j + k') = x ++ L.take t ++ (L.drop t).take k' ++ v :: (L.drop t).drop k' ++ y) := by
            show _ = _
            have := xch_app (x ++ L.take t ++ (L.drop t).take k') u [] v ((L.drop t).drop (k' + 1) ++ y)
            rw [hlA, List.length_nil, Nat.add_zero, xch_comm _ _ _ (by omega)] at this
            rw [e0, this, e1]
          have hlen : (x ++ L.take t ++ (L.drop t).take (k' + 1) ++ v :: (L.drop t).drop (k' + 1) ++ y).length = T := by
            simp; omega
          have HEv : Hid (el (x ++ L.take t ++ (L.drop t).take (k' + 1) ++ v :: (L.drop t).drop (k' + 1) ++ y) (j + k') = u ∧ el (x ++ L.take t ++ (L.drop t).take (k' + 1) ++ v :: (L.drop t).drop (k' + 1) ++ y) (j + k' + 1) = v) := by
            rw [e0]
            constructor
            · rw [List.append_assoc, el_right (by omega), hlA, Nat.sub_self]; rfl
            · rw [el_right (by rw [List.length_append, hlA]; simp)]
              rw [show j + k' + 1 - (x ++ L.take t ++ (L.drop t).take k' ++ u :: []).length = 0 from by rw [List.length_append, hlA]; simp]; rfl
          obtain ⟨n1, hn1⟩ : ∃ n, j + k' = n := ⟨_, rfl⟩
          rw [hn1] at HXC HEv
          obtain ⟨p1, p2, f1, f2⟩ := HK.out.cells (i := n1) (by omega)
          obtain ⟨p3, p4, f3, f4⟩ := HK.out.cells (i := n1 + 1) (by omega)
          rw [HEv.out.1] at p1 p2
          rw [HEv.out.2] at p3 p4
          have HS5 : Hid (SS w0 b c (x ++ L.take t ++ (L.drop t).take k' ++ v :: (L.drop t).drop k' ++ y) ((((wr.setCell ⟨b, (n1 + 1) * 2, none⟩ (.int .i64 u.i)).setCell ⟨b, (n1 + 1) * 2 + 1, none⟩ (.int .i64 u.p)).setCell ⟨b, n1 * 2, none⟩ (.int .i64 v.i)).setCell ⟨b, n1 * 2 + 1, none⟩ (.int .i64 v.p)).drew) := by
            have := HK.out.exch (i := n1 + 1) (j := n1) (by omega) (by omega) HEv.out.2 HEv.out.1
            rw [HXC.out] at this
            exact this
          obtain ⟨n2, hn2⟩ : ∃ n, n1 + 1 = n := ⟨_, rfl⟩
          have hz1 : (j : Int) + ((k' + 1 : Nat) : Int) = (n2 : Int) := by omega
          have hw1 : IntKind.i64.wrap ((n2 : Int) - 1) = (n1 : Int) := by rw [IntKind.wrap_i64]; omega
          have hnn : n2 ≠ n1 := by omega
          have HN2 : Hid (n1 + 1 = n2) := hn2
          rw [hn2] at p3 p4 f3 f4 HS5
          have hl1 : (n1 : Int) < (T : Int) := by omega
          have hl2 : (n2 : Int) < (T : Int) := by omega
          have hn21 : (1 : Int) ≤ (n2 : Int) := by omega
          rw [hz1] at hktz ⊢
          have HZ : Hid ((j : Int) + ((k' + 1 : Nat) : Int) = (n2 : Int)) := hz1
          clear hz1 e0 e1 hlen hlA hu q1 q2 q3 q4 hn1 hn2 HEv HXC HK hDl
          go_wp2_with fail
          go_region
          clear p1 p2 p3 p4 f1 f2 f3 f4
          go_wp2
          go_roundw
          case rel => exact ⟨k', by have := HZ.out; have := HN2.out; congr 1; omega, by omega, HS5⟩
          case measure => have := HZ.out; have := HN2.out; simp [intOf]; omega
        · have hkk : k = 0 := by omega
          subst hkk
          have hktz : ¬ (j : Int) < (j : Int) + ((0 : Nat) : Int) := by omega
          have HF : Hid (SS w0 b c (x ++ (L.take t ++ v :: L.drop t) ++ y) wr) := by
            show SS _ _ _ _ _
            have := HK.out
            simpa using this
          clear q1 q2 q3 q4 hDl
          go_wp2
          (try simp only [Exit.inBlock, Exit.then])
          refine bodyPost_ret (results_none rfl _ _ _) rfl ?_
          exact ⟨rfl, _, HM.out, by first | exact HF.out | (rw [← List.append_assoc]; exact HF.out)⟩
end Go.Proofs.Ytaeokecodejpdaa
