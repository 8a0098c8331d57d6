/- What insertionSortCmpFunc does to a row of validators: a part of it comes in order, equals in their order. Conditions: rows that a machine can hold. -/
import Derived.Test.YtaeokecodejpdaaSo2
namespace Go.Proofs.Ytaeokecodejpdaa
open Go.RowKit
open Num
set_option linter.unusedVariables false
/-- S' is S put in order. -/
structure Ord (S S' : List V) : Prop where
  srt : Srt S'
  stb : Stb S S'
  len : S'.length = S.length
set_option maxHeartbeats 3200000 in
set_option maxRecDepth 100000 in
theorem ins_any (b c a e cap T : Nat) (x S y : List V) (w0 w : World) (h : SS w0 b c (x ++ S ++ y) w) (h1 : x.length = a) (h2 : a + S.length = e) (hT : (x ++ S ++ y).length = T) (hl : T ≤ 2097152) :
    Calls Try.prog 29 #[.slice (some ⟨b, 0, none⟩) T cap, .int .i64 (a : Int), .int .i64 (e : Int), lessOf c] w fun r w' => r = .returned (.tuple #[]) ∧ ∃ S', Ord S S' ∧ SS w0 b c (x ++ S' ++ y) w' := by
  have hlen : x.length + S.length + y.length = T := by rw [← hT]; simp; omega
  have HS0 : Hid (SS w0 b c (x ++ S ++ y) w) := h
  by_cases hS : S.length = 0
  · have he : ¬ (a : Int) + 1 < (e : Int) := by omega
    have haT : a ≤ T := by omega
    have HS' : Hid (S = []) := List.eq_nil_of_length_eq_zero hS
    clear h hT
    go_enter Try.func29, Try.ntmps29
    go_wp2
    refine wp_loop_rounds 1 ?_
    rw [rounds_succ]
    go_wp2
    go_end0
    exact ⟨rfl, S, ⟨by rw [HS'.out]; exact List.Pairwise.nil, Stb.refl _, rfl⟩, by first | exact HS0.out | (simpa using HS0.out)⟩
  have HX : Hid (x.length = a ∧ a + S.length = e ∧ x.length + S.length + y.length = T) := ⟨h1, h2, hlen⟩
  have hS1 : 1 ≤ S.length := by omega
  have haT : a ≤ T := by omega
  have heT : e ≤ T := by omega
  have hae : a + 1 ≤ e := by omega
  have HA0 : Hid (SS w0 b c (x ++ S.take 1 ++ S.drop 1 ++ y) w) := by
    show SS _ _ _ _ _
    rw [List.append_assoc x, List.take_append_drop]; exact HS0.out
  clear h hT h1 h2 hlen hS HS0
  go_enter Try.func29, Try.ntmps29
  go_wp2
  go_loopw [8] (fun iv wr => ∃ (n : Nat) (A : List V), iv = .int .i64 ((a : Int) + (n : Int)) ∧ 1 ≤ n ∧ a + n ≤ e ∧ Hid (A.length = n) ∧ Hid (Srt A) ∧ Hid (Stb (S.take n) A) ∧ Hid (SS w0 b c (x ++ A ++ S.drop n ++ y) wr)) (fun iv _ => e - (intOf iv).toNat)
  case atStart => exact ⟨1, S.take 1, by go_num, Nat.le_refl _, hae, by show _ = _; rw [List.length_take]; omega, by
      show Srt _
      match S, hS1 with
      | u :: S, _ => exact List.pairwise_singleton _ _, Stb.refl _, HA0⟩
  case round =>
    clear HA0
    obtain ⟨n, A, rfl, hn1, hne, HAl, HAs, HAt, HS⟩ := hrel
    by_cases hlt : a + n < e
    · have hltz : (a : Int) + (n : Int) < (e : Int) := by omega
      obtain ⟨v, hv⟩ : ∃ v, el S n = v := ⟨_, rfl⟩
      have hSn : n < S.length := by have := HX.out; omega
      have HD : Hid (S.drop n = v :: S.drop (n + 1)) := by show _ = _; rw [drop_el hSn, hv]
      have HT1 : Hid (S.take (n + 1) = S.take n ++ [v]) := by show _ = _; rw [take_el hSn, hv]
      clear hv
      go_wp2
      go_loopw [9] (fun jv wr2 => ∃ (J j : Nat) (A1 A2 : List V), jv = .int .i64 (J : Int) ∧ a ≤ J ∧ J ≤ a + n ∧ Hid (a + j = J) ∧ Hid (A1.length = j ∧ A = A1 ++ A2) ∧ Hid (∀ u ∈ A2, v.i < u.i) ∧ Hid (SS w0 b c (x ++ A1 ++ v :: A2 ++ S.drop (n + 1) ++ y) wr2)) (fun jv _ => (intOf jv).toNat)
      case atStart =>
        refine ⟨a + n, n, A, [], by first | rfl | go_num, by omega, Nat.le_refl _, rfl, ⟨HAl.out, by simp⟩, fun u hu => by simp at hu, ?_⟩
        show SS _ _ _ _ _
        have := HS.out
        rw [HD.out] at this
        simpa using this
      case round =>
        clear HS
        obtain ⟨J, j, A1, A2, rfl, hJa, hJn, HJ, HA, HG, HS⟩ := hrel
        have hjn : j ≤ n := by have := HJ.out; omega
        obtain ⟨q1, q2, q3⟩ := HX.out
        have hlT : (x ++ A1 ++ v :: A2 ++ S.drop (n + 1) ++ y).length = T := by
          have e1 := HA.out.2; have e2 := HAl.out
          rw [e1, List.length_append] at e2
          simp; omega
        have HLT : Hid ((x ++ A1 ++ v :: A2 ++ S.drop (n + 1) ++ y).length = T) := hlT
        have done : (j = 0 ∨ (el A1 (j - 1)).i ≤ v.i) → Hid (∃ A', A'.length = n + 1 ∧ Srt A' ∧ Stb (S.take (n + 1)) A' ∧ SS w0 b c (x ++ A' ++ S.drop (n + 1) ++ y) wr) := fun hh => by
          have hs := HAs.out
          rw [HA.out.2] at hs
          have hp := hs.parts
          have m := Mrg.one_right (e := v) hs (by
            have := take_upto (k := j) hp.1 (by rw [HA.out.1]; exact Nat.le_refl _) hh
            rw [List.take_of_length_le (by rw [HA.out.1]; exact Nat.le_refl _)] at this
            exact this) HG.out
          refine ⟨A1 ++ v :: A2, ?_, m.srt, ?_, ?_⟩
          · have := m.len; rw [← HA.out.2, HAl.out] at this; simpa using this
          · rw [HT1.out]
            refine Stb.trans (HAt.out.app (Stb.refl _)) ?_
            have := m.stb; rw [← HA.out.2] at this; exact this
          · have := HS.out; simpa using this
        have DONE : Hid ((j = 0 ∨ (el A1 (j - 1)).i ≤ v.i) → Hid (∃ A', A'.length = n + 1 ∧ Srt A' ∧ Stb (S.take (n + 1)) A' ∧ SS w0 b c (x ++ A' ++ S.drop (n + 1) ++ y) wr)) := done
        clear done hlT
        by_cases hj0 : j = 0
        · obtain ⟨A', d1, d2, d3, d4⟩ := (DONE.out (.inl hj0)).out
          have hjz : ¬ (a : Int) < (J : Int) := by have := HJ.out; omega
          have hjz' : decide ((a : Int) < (J : Int)) = false := decide_eq_false hjz
          have hjz2 : decide (a < J) = false := decide_eq_false (by omega)
          have hne := bel_some wr
          have HB : Hid (∀ p : Bel wr, SS w0 b c (x ++ A' ++ S.drop (n + 1) ++ y) p.W) := fun p => d4.below p.h
          have HD1 : Hid (A'.length = n + 1 ∧ Srt A' ∧ Stb (S.take (n + 1)) A') := ⟨d1, d2, d3⟩
          clear d1 d2 d3 d4 q1 q2 q3
          go_wp2_with fail
          refine wp_region_below (by kernel_rfl) (by kernel_rfl) ?_
          repeat (go_big_quiet_step (fail))
          refine wpQuiet_nil ?_
          intro _ hw'
          obtain ⟨pq, hw''⟩ := hw'
          subst hw''
          have HS3 := HB.out pq
          have HS4 : Hid (SS w0 b c (x ++ A' ++ S.drop (n + 1) ++ y) pq.W) := HS3
          clear HS3
          go_wp2
          go_roundw
          case rel => exact ⟨n + 1, A', by first | go_num | (congr 1; omega), by omega, by omega, HD1.out.1, HD1.out.2.1, HD1.out.2.2, HS4⟩
          case measure => simp [intOf]; omega
        · obtain ⟨j', rfl⟩ : ∃ j', j = j' + 1 := ⟨j - 1, by omega⟩
          have hj1 := HJ.out
          have hA1 := HA.out.1
          obtain ⟨u, hu⟩ : ∃ u, el A1 j' = u := ⟨_, rfl⟩
          have hAA : A1 = A1.take j' ++ [u] := by
            have := take_el (l := A1) (i := j') (by omega)
            rw [List.take_of_length_le (by omega), hu] at this
            exact this
          obtain ⟨B1, hB1⟩ : ∃ B1, A1.take j' = B1 := ⟨_, rfl⟩
          rw [hB1] at hAA
          have hB1l : B1.length = j' := by rw [← hB1, List.length_take]; omega
          have e0 : x ++ A1 ++ v :: A2 ++ S.drop (n + 1) ++ y = (x ++ B1) ++ u :: [] ++ v :: (A2 ++ S.drop (n + 1) ++ y) := by rw [hAA]; simp
          have e1 : (x ++ B1) ++ v :: [] ++ u :: (A2 ++ S.drop (n + 1) ++ y) = x ++ B1 ++ v :: (u :: A2) ++ S.drop (n + 1) ++ y := by simp
          have hlB : (x ++ B1).length = a + j' := by rw [List.length_append]; omega
          have HXC : Hid (xch (x ++ A1 ++ v :: A2 ++ S.drop (n + 1) ++ y) (a + j' + 1) (a + j') = x ++ B1 ++ v :: (u :: A2) ++ S.drop (n + 1) ++ y) := by
            show _ = _
            have := xch_app (x ++ B1) u [] v (A2 ++ S.drop (n + 1) ++ y)
            rw [hlB, List.length_nil, Nat.add_zero, xch_comm _ _ _ (by omega)] at this
            rw [e0, this, e1]
          have HEv : Hid (el (x ++ A1 ++ v :: A2 ++ S.drop (n + 1) ++ y) (a + j') = u ∧ el (x ++ A1 ++ v :: A2 ++ S.drop (n + 1) ++ y) (a + j' + 1) = v) := by
            rw [e0]
            constructor
            · rw [List.append_assoc, el_right (by omega), hlB, Nat.sub_self]; rfl
            · rw [el_right (by rw [List.length_append, hlB]; simp)]
              rw [show a + j' + 1 - (x ++ B1 ++ u :: []).length = 0 from by rw [List.length_append, hlB]; simp]; rfl
          obtain ⟨n1, hn1⟩ : ∃ k, a + j' = k := ⟨_, rfl⟩
          rw [hn1] at HXC HEv
          have hn2 : n1 + 1 = J := by omega
          rw [hn2] at HXC HEv
          have hlT := HLT.out
          have hJT : J < T := by omega
          obtain ⟨p1, p2, f1, f2⟩ := HS.out.cells (i := n1) (by omega)
          obtain ⟨p3, p4, f3, f4⟩ := HS.out.cells (i := J) (by omega)
          rw [HEv.out.1] at p1 p2
          rw [HEv.out.2] at p3 p4
          have HN2 : Hid (n1 + 1 = J ∧ a + j' = n1) := ⟨hn2, hn1⟩
          have hnn : J ≠ n1 := by omega
          have hjz : (a : Int) < (J : Int) := by omega
          have hw1 : IntKind.i64.wrap ((J : Int) - 1) = (n1 : Int) := by rw [IntKind.wrap_i64]; omega
          have hz1 : (J : Int) - 1 = (n1 : Int) := by omega
          have hl1 : (n1 : Int) < (T : Int) := by omega
          have hl2 : (J : Int) < (T : Int) := by omega
          have hJ1 : (1 : Int) ≤ (J : Int) := by omega
          have hne := bel_some wr
          have c1 := fun p : Bel wr => p.cell p1
          have c2 := fun p : Bel wr => p.cell p2
          have c3 := fun p : Bel wr => p.cell p3
          have c4 := fun p : Bel wr => p.cell p4
          have HCF : Hid (∀ p : Bel wr, CF p.W c) := fun p => HS.out.cf.below p.h
          have HB : Hid (∀ p : Bel wr, SS w0 b c (x ++ A1 ++ v :: A2 ++ S.drop (n + 1) ++ y) p.W) := fun p => HS.out.below p.h
          have hsg := cmpI_neg v.i u.i
          obtain ⟨g, hg⟩ : ∃ g, cmpI v.i u.i = g := ⟨_, rfl⟩
          have kL := fun W hW => less_any v u c W hW
          rw [hg] at kL hsg
          have HSG : Hid (g < 0 ↔ v.i < u.i) := hsg
          have HUE : Hid (el A1 j' = u ∧ A1 = B1 ++ [u] ∧ B1.length = j') := ⟨hu, hAA, hB1l⟩
          clear hg hsg p1 p2 p3 p4 f1 f2 f3 f4 e0 e1 hlB hB1l hAA hB1 hu hn1 hn2 hA1 hj1 hlT q1 q2 q3 hz1
          by_cases hgn : g < 0
          · go_wp2_with fail
            refine wp_region_below (by kernel_rfl) (by kernel_rfl) ?_
            repeat (go_big_quiet_step ((go_at_call 24; exact bel_of (kL _ (HCF.out _)))))
            refine wpQuiet_nil ?_
            intro _ hw'
            obtain ⟨pq, hw''⟩ := hw'
            subst hw''
            have HS3 : Hid (SS w0 b c (x ++ A1 ++ v :: A2 ++ S.drop (n + 1) ++ y) pq.W) := HB.out pq
            clear c1 c2 c3 c4
            obtain ⟨p1, p2, f1, f2⟩ := HS3.out.cells (i := n1) (by rw [HLT.out]; omega)
            obtain ⟨p3, p4, f3, f4⟩ := HS3.out.cells (i := J) (by rw [HLT.out]; omega)
            rw [HEv.out.1] at p1 p2
            rw [HEv.out.2] at p3 p4
            have HS5 : Hid (SS w0 b c (x ++ B1 ++ v :: (u :: A2) ++ S.drop (n + 1) ++ y) ((((pq.W.setCell ⟨b, J * 2, none⟩ (.int .i64 u.i)).setCell ⟨b, J * 2 + 1, none⟩ (.int .i64 u.p)).setCell ⟨b, n1 * 2, none⟩ (.int .i64 v.i)).setCell ⟨b, n1 * 2 + 1, none⟩ (.int .i64 v.p)).drew) := by
              have := HS3.out.exch (i := J) (j := n1) (by rw [HLT.out]; omega) (by rw [HLT.out]; omega) HEv.out.2 HEv.out.1
              rw [HXC.out] at this
              exact this
            have HG2 : Hid (∀ z ∈ u :: A2, v.i < z.i) := fun z hz => by
              rcases List.mem_cons.1 hz with rfl | hz
              · exact HSG.out.1 hgn
              · exact HG.out z hz
            have HA2 : Hid (B1.length = j' ∧ A = B1 ++ (u :: A2)) := ⟨HUE.out.2.2, by rw [HA.out.2, HUE.out.2.1]; simp⟩
            generalize pq.W = wp at *
            go_wp2_with fail
            go_region
            clear p1 p2 p3 p4 f1 f2 f3 f4
            go_wp2
            go_roundw
            case rel => exact ⟨n1, j', B1, u :: A2, by first | rfl | (congr 1; have := HN2.out; omega), by have := HN2.out; omega, by have := HN2.out; omega, HN2.out.2, HA2, HG2, HS5⟩
            case measure => have := HN2.out; simp [intOf]; omega
          · have hgd : decide (g < 0) = false := decide_eq_false hgn
            obtain ⟨A', d1, d2, d3, d4⟩ := (DONE.out (.inr (by rw [Nat.add_sub_cancel, HUE.out.1]; have := mt HSG.out.2 hgn; omega))).out
            have HB2 : Hid (∀ p : Bel wr, SS w0 b c (x ++ A' ++ S.drop (n + 1) ++ y) p.W) := fun p => d4.below p.h
            have HD1 : Hid (A'.length = n + 1 ∧ Srt A' ∧ Stb (S.take (n + 1)) A') := ⟨d1, d2, d3⟩
            clear d1 d2 d3 d4
            go_wp2_with fail
            refine wp_region_below (by kernel_rfl) (by kernel_rfl) ?_
            repeat (go_big_quiet_step ((go_at_call 24; exact bel_of (kL _ (HCF.out _)))))
            refine wpQuiet_nil ?_
            intro _ hw'
            obtain ⟨pq, hw''⟩ := hw'
            subst hw''
            have HS4 : Hid (SS w0 b c (x ++ A' ++ S.drop (n + 1) ++ y) pq.W) := HB2.out pq
            clear c1 c2 c3 c4
            go_wp2
            go_roundw
            case rel => exact ⟨n + 1, A', by first | go_num | (congr 1; omega), by omega, by omega, HD1.out.1, HD1.out.2.1, HD1.out.2.2, HS4⟩
            case measure => simp [intOf]; omega
    · have hltz : ¬ (a : Int) + (n : Int) < (e : Int) := by omega
      have hnS : S.length ≤ n := by have := HX.out; omega
      have HF : Hid (∃ S', Ord S S' ∧ SS w0 b c (x ++ S' ++ y) wr) := by
        have t := HAt.out
        rw [List.take_of_length_le hnS] at t
        have s4 := HS.out
        rw [List.drop_eq_nil_of_le hnS, List.append_nil] at s4
        exact ⟨A, ⟨HAs.out, t, by have := HX.out; have := HAl.out; omega⟩, s4⟩
      go_wp2
      go_end0
      exact ⟨rfl, by obtain ⟨S', o, s4⟩ := HF.out; exact ⟨S', o, by first | exact s4 | (simpa using s4)⟩⟩
end Go.Proofs.Ytaeokecodejpdaa
