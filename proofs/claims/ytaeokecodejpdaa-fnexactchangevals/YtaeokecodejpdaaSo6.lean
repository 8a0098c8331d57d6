/- What symMergeCmpFunc, stableCmpFunc and SortStableFunc do to a row of validators: it comes in order, equals in their order. Conditions: rows that a machine can hold. -/
import Derived.Test.YtaeokecodejpdaaSo4
import Derived.Test.YtaeokecodejpdaaSo5
namespace Go.Proofs.Ytaeokecodejpdaa
open Go.RowKit
open Num
set_option linter.unusedVariables false
theorem one_of {L : List V} (h : L.length = 1) : ∃ v, L = [v] := by
  match L, h with
  | [v], _ => exact ⟨v, rfl⟩
theorem sym_any : ∀ n, SymAt n
  | 0 => by intro b c a m e cap T x L R y w0 w hn _ _ _ h1 h2; omega
  | n + 1 => by
    intro b c a m e cap T x L R y w0 w hn h hL hR h1 h2 ha hm he hT hl
    by_cases l1 : L.length = 1
    · obtain ⟨v, rfl⟩ := one_of l1
      exact sym_left b c a m e cap T x v R y w0 w h hR h2 ha (by simpa using hm) he hT hl
    · by_cases r1 : R.length = 1
      · obtain ⟨v, rfl⟩ := one_of r1
        exact sym_right b c a m e cap T x L v y w0 w h hL (by omega) ha hm (by simpa using he) hT hl
      · exact sym_step n (sym_any n) b c a m e cap T x L R y w0 w hn h hL hR (by omega) (by omega) ha hm he hT hl
/-- Runs in order, each of so many. -/
def Runs (k : Nat) (cs : List (List V)) : Prop := ∀ r ∈ cs, Srt r ∧ r.length = k
theorem runs_length {k : Nat} : ∀ {cs : List (List V)}, Runs k cs → cs.flatten.length = cs.length * k
  | [], _ => by simp
  | r :: cs, h => by
    have h1 := (h r (List.mem_cons_self ..)).2
    have h2 := runs_length (fun q hq => h q (List.mem_cons_of_mem _ hq))
    rw [List.flatten_cons, List.length_append, h1, h2, List.length_cons, Nat.succ_mul]; omega
theorem runs_snoc {k : Nat} {cs : List (List V)} {r : List V} (h : Runs k cs) (h1 : Srt r) (h2 : r.length = k) : Runs k (cs ++ [r]) := fun q hq => by
  rcases List.mem_append.1 hq with hq | hq
  · exact h q hq
  · simp at hq; subst hq; exact ⟨h1, h2⟩
theorem flat_snoc (cs : List (List V)) (r : List V) : (cs ++ [r]).flatten = cs.flatten ++ r := by simp
set_option maxHeartbeats 6400000 in
set_option maxRecDepth 100000 in
theorem stable_any (b c cap : Nat) (l : List V) (w0 w : World) (h : SS w0 b c l w) (hl : l.length ≤ 1048576) :
    Calls Try.prog 27 #[.slice (some ⟨b, 0, none⟩) l.length cap, .int .i64 (l.length : Int), lessOf c] w fun r w' => r = .returned (.tuple #[]) ∧ ∃ l', Ord l l' ∧ SS w0 b c l' w' := by
  have HS0 : Hid (SS w0 b c l w) := h
  obtain ⟨T, hT⟩ : ∃ T, l.length = T := ⟨_, rfl⟩
  rw [hT] at hl ⊢
  have HT : Hid (l.length = T) := hT
  clear h hT
  go_enter Try.func27, Try.ntmps27
  go_wp2
  go_loopw [7, 8] (fun av bv wr => ∃ (a : Nat) (cs : List (List V)) (y : List V), av = .int .i64 a ∧ bv = .int .i64 ((a : Int) + 20) ∧ a ≤ T ∧ Hid (Runs 20 cs ∧ cs.flatten.length = a ∧ cs.flatten.length + y.length = T ∧ Stb l (cs.flatten ++ y)) ∧ Hid (SS w0 b c (cs.flatten ++ y) wr)) (fun av _ _ => T - (intOf av).toNat)
  case atStart => exact ⟨0, [], l, rfl, rfl, Nat.zero_le _, ⟨fun r hr => by simp at hr, rfl, by have := HT.out; simp; omega, by simpa using Stb.refl l⟩, by show SS _ _ _ _ _; simpa using HS0.out⟩
  case round =>
    clear HS0
    obtain ⟨a, cs, y, rfl, rfl, haT, HC, HS⟩ := hrel
    by_cases hb : a + 20 ≤ T
    · have hbz : (a : Int) + 20 ≤ (T : Int) := by omega
      obtain ⟨q1, q2, q3, q4⟩ := HC.out
      have kI := ins_any b c a (a + 20) cap T cs.flatten (y.take 20) (y.drop 20) w0 wr (by rw [List.append_assoc, List.take_append_drop]; exact HS.out) q2 (by rw [List.length_take]; omega) (by rw [List.append_assoc, List.take_append_drop, List.length_append]; exact q3) (by omega)
      rw [show ((a + 20 : Nat) : Int) = (a : Int) + 20 from by omega] at kI
      clear q1 q2 q3 q4
      go_wp2_with fail
      refine kI.mono ?_
      rintro r w1 ⟨rfl, S', hO, hs⟩
      have HC2 : Hid (Runs 20 (cs ++ [S']) ∧ (cs ++ [S']).flatten.length = a + 20 ∧ (cs ++ [S']).flatten.length + (y.drop 20).length = T ∧ Stb l ((cs ++ [S']).flatten ++ y.drop 20)) := by
        obtain ⟨q1, q2, q3, q4⟩ := HC.out
        have hl20 : S'.length = 20 := by rw [hO.len, List.length_take]; omega
        refine ⟨runs_snoc q1 hO.srt hl20, by rw [flat_snoc, List.length_append]; omega, by rw [flat_snoc, List.length_append, List.length_drop]; omega, ?_⟩
        rw [flat_snoc]
        refine Stb.trans q4 ?_
        conv => lhs; rw [← List.take_append_drop 20 y, ← List.append_assoc]
        exact ((Stb.refl _).app hO.stb).app (Stb.refl _)
      have HS2 : Hid (SS w0 b c ((cs ++ [S']).flatten ++ y.drop 20) w1) := by show SS _ _ _ _ _; rw [flat_snoc]; exact hs
      clear hs hO kI
      go_wp2
      go_roundw
      case rel => exact ⟨a + 20, cs ++ [S'], y.drop 20, by go_num, by first | go_num | (congr 1; omega), by omega, HC2, HS2⟩
      case measure => simp [intOf]; omega
    · have hbz : ¬ (a : Int) + 20 ≤ (T : Int) := by omega
      obtain ⟨q1, q2, q3, q4⟩ := HC.out
      have kI := ins_any b c a T cap T cs.flatten y [] w0 wr (by rw [List.append_nil]; exact HS.out) q2 (by omega) (by rw [List.append_nil, List.length_append]; exact q3) (by omega)
      clear q1 q2 q3 q4
      go_wp2_with fail
      refine kI.mono ?_
      rintro r w1 ⟨rfl, S', hO, hs⟩
      have HC2 : Hid (∃ (cs : List (List V)) (z : List V), Runs 20 cs ∧ cs.flatten.length + z.length = T ∧ z.length < 20 ∧ Srt z ∧ Stb l (cs.flatten ++ z) ∧ SS w0 b c (cs.flatten ++ z) w1) := by
        obtain ⟨q1, q2, q3, q4⟩ := HC.out
        refine ⟨cs, S', q1, by rw [hO.len]; exact q3, by rw [hO.len]; omega, hO.srt, q4.trans ((Stb.refl _).app hO.stb), by simpa using hs⟩
      clear hs hO kI HC HS
      go_wp2
      go_loopw [6] (fun kv wr => ∃ (k : Nat) (cs : List (List V)) (z : List V), kv = .int .i64 k ∧ 0 < k ∧ k ≤ 4194304 ∧ Hid (Runs k cs ∧ cs.flatten.length + z.length = T ∧ z.length < k ∧ Srt z ∧ Stb l (cs.flatten ++ z)) ∧ Hid (SS w0 b c (cs.flatten ++ z) wr)) (fun kv _ => T - (intOf kv).toNat)
      case atStart =>
        obtain ⟨cs, z, d1, d2, d3, d4, d5, d6⟩ := HC2.out
        exact ⟨20, cs, z, rfl, by omega, by omega, ⟨d1, d2, d3, d4, d5⟩, d6⟩
      case round =>
        clear HC2 hb hbz haT
        obtain ⟨k, cs, z, rfl, hk0, hkm, HC, HS⟩ := hrel
        by_cases hkT : k < T
        · have hkz : (k : Int) < (T : Int) := by omega
          have fin : ∀ (W : World), (∃ (cs : List (List V)) (z : List V), Runs (k * 2) cs ∧ cs.flatten.length + z.length = T ∧ z.length < k * 2 ∧ Srt z ∧ Stb l (cs.flatten ++ z) ∧ SS w0 b c (cs.flatten ++ z) W) → Hid (∃ (k' : Nat) (cs : List (List V)) (z : List V), Value.int .i64 ((k : Int) * 2) = .int .i64 k' ∧ 0 < k' ∧ k' ≤ 4194304 ∧ Hid (Runs k' cs ∧ cs.flatten.length + z.length = T ∧ z.length < k' ∧ Srt z ∧ Stb l (cs.flatten ++ z)) ∧ Hid (SS w0 b c (cs.flatten ++ z) W)) := fun W ⟨cs, z, d1, d2, d3, d4, d5, d6⟩ =>
            ⟨k * 2, cs, z, by go_num, by omega, by omega, ⟨d1, d2, d3, d4, d5⟩, d6⟩
          have FIN : Hid (_) := fin
          clear fin
          go_wp2
          go_loopw [7, 8] (fun av bv wr => ∃ (a : Nat) (Dn To : List (List V)), av = .int .i64 a ∧ bv = .int .i64 ((a : Int) + 2 * (k : Int)) ∧ a ≤ T ∧ Hid (Runs (k * 2) Dn ∧ Runs k To ∧ Dn.flatten.length = a ∧ a + To.flatten.length + z.length = T ∧ Stb l (Dn.flatten ++ To.flatten ++ z)) ∧ Hid (SS w0 b c (Dn.flatten ++ To.flatten ++ z) wr)) (fun av _ _ => T - (intOf av).toNat)
          case atStart =>
            obtain ⟨d1, d2, d3, d4, d5⟩ := HC.out
            exact ⟨0, [], cs, rfl, by first | rfl | go_num | simp, Nat.zero_le _, ⟨fun r hr => by simp at hr, d1, rfl, by omega, by simpa using d5⟩, by show SS _ _ _ _ _; simpa using HS.out⟩
          case round =>
            clear HS
            obtain ⟨a, Dn, To, rfl, rfl, haT, HR, HS⟩ := hrel
            by_cases hb : a + 2 * k ≤ T
            · have hbz : (a : Int) + 2 * (k : Int) ≤ (T : Int) := by omega
              obtain ⟨q1, q2, q3, q4, q5⟩ := HR.out
              have hz := HC.out.2.2.1
              have hTo := runs_length q2
              obtain ⟨r1, r2, To', rfl⟩ : ∃ r1 r2 To', To = r1 :: r2 :: To' := by
                match To, hTo, q4 with
                | [], hTo, q4 => exfalso; simp at q4; omega
                | [r], hTo, q4 => exfalso; simp at hTo q4; omega
                | r1 :: r2 :: To', _, _ => exact ⟨r1, r2, To', rfl⟩
              have s1 := q2 r1 (by simp)
              have s2 := q2 r2 (by simp)
              have hfl : (r1 :: r2 :: To').flatten = r1 ++ r2 ++ To'.flatten := by simp
              rw [hfl] at q4 q5
              have kM := sym_any (2 * k) b c a (a + k) (a + 2 * k) cap T Dn.flatten r1 r2 (To'.flatten ++ z) w0 wr (by omega) (by have := HS.out; rw [hfl] at this; simpa using this) s1.1 s2.1 (by omega) (by omega) q3 (by omega) (by omega) (by simp only [List.length_append] at q4 ⊢; omega) (by omega)
              rw [show ((a + k : Nat) : Int) = (a : Int) + (k : Int) from by omega, show ((a + 2 * k : Nat) : Int) = (a : Int) + 2 * (k : Int) from by omega] at kM
              have HQ : Hid (Srt r1 ∧ r1.length = k ∧ r2.length = k ∧ a + (r1 ++ r2 ++ To'.flatten).length + z.length = T ∧ Stb l (Dn.flatten ++ (r1 ++ r2 ++ To'.flatten) ++ z) ∧ Runs k To') := ⟨s1.1, s1.2, s2.2, q4, q5, fun r hr => q2 r (by simp [hr])⟩
              clear q1 q2 q3 q4 q5 hTo s1 s2 hfl hz
              go_wp2_with fail
              refine kM.mono ?_
              rintro r w1 ⟨rfl, M, hM, hs⟩
              have HR2 : Hid (Runs (k * 2) (Dn ++ [M]) ∧ Runs k To' ∧ (Dn ++ [M]).flatten.length = a + 2 * k ∧ a + 2 * k + To'.flatten.length + z.length = T ∧ Stb l ((Dn ++ [M]).flatten ++ To'.flatten ++ z)) := by
                obtain ⟨p1, p2, p3, p4, p5, p6⟩ := HQ.out
                have hMl := hM.len
                refine ⟨runs_snoc HR.out.1 hM.srt (by omega), p6, by rw [flat_snoc, List.length_append, HR.out.2.2.1]; omega, by simp only [List.length_append] at p4; omega, ?_⟩
                rw [flat_snoc]
                refine Stb.trans p5 ?_
                have : Dn.flatten ++ (r1 ++ r2 ++ To'.flatten) ++ z = Dn.flatten ++ (r1 ++ r2) ++ To'.flatten ++ z := by simp
                rw [this]
                exact (((Stb.refl _).app hM.stb).app (Stb.refl _)).app (Stb.refl _)
              have HS2 : Hid (SS w0 b c ((Dn ++ [M]).flatten ++ To'.flatten ++ z) w1) := by show SS _ _ _ _ _; rw [flat_snoc]; simpa using hs
              clear hs hM kM HQ
              go_wp2
              go_roundw
              case rel => exact ⟨a + 2 * k, Dn ++ [M], To', by first | go_num | (congr 1; omega), by first | go_num | (congr 1; omega), by omega, HR2, HS2⟩
              case measure => simp [intOf]; omega
            · have hbz : ¬ (a : Int) + 2 * (k : Int) ≤ (T : Int) := by omega
              obtain ⟨q1, q2, q3, q4, q5⟩ := HR.out
              obtain ⟨_, _, hz, sz, _⟩ := HC.out
              have hTo := runs_length q2
              have hT1 : To.length ≤ 1 := by
                match To, hTo, q4 with
                | [], _, _ => simp
                | [r], _, _ => simp
                | r1 :: r2 :: To', hTo, q4 => exfalso; rw [List.length_cons, List.length_cons, Nat.succ_mul, Nat.succ_mul] at hTo; omega
              by_cases hm : a + k < T
              · have hmz : (a : Int) + (k : Int) < (T : Int) := by omega
                obtain ⟨r1, rfl⟩ : ∃ r1, To = [r1] := by
                  match To, hT1, hTo, q4 with
                  | [], _, _, q4 => exfalso; simp at q4; omega
                  | [r], _, _, _ => exact ⟨r, rfl⟩
                have s1 := q2 r1 (by simp)
                have hfl : [r1].flatten = r1 := by simp
                rw [hfl] at q4 q5
                have kM := sym_any (2 * k) b c a (a + k) T cap T Dn.flatten r1 z [] w0 wr (by omega) (by have := HS.out; rw [hfl] at this; simpa using this) s1.1 sz (by omega) (by omega) q3 (by omega) (by omega) (by simp only [List.length_append, List.length_nil]; omega) (by omega)
                rw [show ((a + k : Nat) : Int) = (a : Int) + (k : Int) from by omega] at kM
                have HQ : Hid (r1.length = k ∧ a + r1.length + z.length = T ∧ Stb l (Dn.flatten ++ r1 ++ z)) := ⟨s1.2, q4, q5⟩
                clear q1 q2 q3 q4 q5 hTo s1 hfl hT1
                go_wp2_with fail
                refine kM.mono ?_
                rintro r w1 ⟨rfl, M, hM, hs⟩
                have HF := FIN.out w1 ⟨Dn, M, HR.out.1, by have := hM.len; have := HQ.out; have := HR.out.2.2.1; omega, by have := hM.len; have := HQ.out; omega, hM.srt, by
                  have := HQ.out.2.2
                  rw [List.append_assoc] at this
                  exact this.trans ((Stb.refl _).app hM.stb), by simpa using hs⟩
                clear hs hM kM HQ FIN
                go_wp2
                go_roundw
                case rel => exact HF.out
                case measure => simp [intOf]; omega
              · have hmz : ¬ (a : Int) + (k : Int) < (T : Int) := by omega
                have HF := FIN.out wr (by
                  match To, hT1, hTo, q2, q4, q5, HS with
                  | [], _, _, _, q4, q5, HS => exact ⟨Dn, z, q1, by simp at q4; omega, by omega, sz, by simpa using q5, by simpa using HS.out⟩
                  | [r], _, _, q2, q4, q5, HS =>
                    have s1 := q2 r (by simp)
                    have hz0 : z = [] := List.eq_nil_of_length_eq_zero (by simp at q4; omega)
                    subst hz0
                    exact ⟨Dn, r, q1, by simp at q4; omega, by omega, s1.1, by simpa using q5, by simpa using HS.out⟩)
                clear FIN q1 q2 q3 q4 q5 hTo hT1
                go_wp2
                go_roundw
                case rel => exact HF.out
                case measure => simp [intOf]; omega
        · have hkz : ¬ (k : Int) < (T : Int) := by omega
          have HF : Hid (∃ l', Ord l l' ∧ SS w0 b c l' wr) := by
            obtain ⟨d1, d2, d3, d4, d5⟩ := HC.out
            have hl' := runs_length d1
            refine ⟨cs.flatten ++ z, ⟨?_, d5, by rw [List.length_append, HT.out]; exact d2⟩, HS.out⟩
            match cs, d1, hl', d2 with
            | [], _, _, _ => simpa using d4
            | [r], d1, hl', d2 =>
              have hz : z = [] := List.eq_nil_of_length_eq_zero (by simp at hl' d2; omega)
              rw [hz]; simpa using (d1 r (by simp)).1
            | r :: q :: cs, d1, hl', d2 =>
              exfalso
              rw [List.length_cons, List.length_cons, Nat.succ_mul, Nat.succ_mul] at hl'
              omega
          go_wp2
          go_end0
          exact ⟨rfl, HF.out⟩
set_option maxHeartbeats 400000 in
theorem sort_any (b c cap : Nat) (l : List V) (w0 w : World) (h : SS w0 b c l w) (hl : l.length ≤ 1048576) :
    Calls Try.prog 23 #[.slice (some ⟨b, 0, none⟩) l.length cap, lessOf c] w fun r w' => r = .returned (.tuple #[]) ∧ ∃ l', Ord l l' ∧ SS w0 b c l' w' := by
  have kS := stable_any b c cap l w0 w h hl
  clear h
  go_enter Try.func23, Try.ntmps23
  go_wp2_with fail
  refine kS.mono ?_
  rintro r w1 ⟨rfl, l', hO, hs⟩
  have HF : Hid (∃ l', Ord l l' ∧ SS w0 b c l' w1) := ⟨l', hO, hs⟩
  clear hO hs kS
  go_wp2
  go_end0
  exact ⟨rfl, HF.out⟩
end Go.Proofs.Ytaeokecodejpdaa
