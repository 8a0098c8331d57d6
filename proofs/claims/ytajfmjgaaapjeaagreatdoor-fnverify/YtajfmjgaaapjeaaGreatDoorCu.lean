/- What spec.CommitVals answers; old memory stays. Conditions: rows that a machine can hold. -/
import Derived.Test.YtajfmjgaaapjeaaGreatDoorCv
import Derived.Test.YtajfmjgaaapjeaaGreatDoorRw
namespace Go.Proofs.YtajfmjgaaapjeaaGreatDoor
open Go.RowKit
open Num
set_option linter.unusedVariables false
theorem i64_row (w : World) (x : Int) (g : Nat) (hg : g = w.heap.size) : ∀ j u, [i64v x][j]? = some u → (w.alloc (.cells #[.int .i64 x] 3)).cell? ((⟨g, 0, none⟩ : Addr).add j) = some u := by
  subst hg; exact one_int w x
set_option maxHeartbeats 3200000 in
set_option maxRecDepth 100000 in
theorem spec_cv (x : Ct) (a : Option Addr) (cap : Nat) (w : World) (hl : SO w a x.l) (hlen : x.l.length ≤ 9223372036854775807) :
    Calls Tryz.prog 13 #[cV x a cap] w fun e w' => ∃ q, e = .returned q ∧ OwnI w' w.heap.size q (cv x) ∧ Below w.heap.size w w' := by
  obtain ⟨i0, hinf, hz0, hz1', hz2⟩ := info3f
  have HL : Hid (SO w a x.l) := hl
  clear hl
  have HX : Hid (Blk ((w.alloc (.cells (ccs x a cap).toArray 33)).alloc (.cells #[] 3)) w.heap.size (ccs x a cap) 33) := (blk_new w _ _).alloc _
  have e1 : (w.alloc (.cells (ccs x a cap).toArray 33)).heap.size = w.heap.size + 1 := by simp
  have HO : Hid (OwnI ((w.alloc (.cells (ccs x a cap).toArray 33)).alloc (.cells #[] 3)) (w.heap.size + 1) (.slice (some ⟨w.heap.size + 1, 0, none⟩) 0 0) []) := by
    have h : OwnI ((w.alloc (.cells (ccs x a cap).toArray 33)).alloc (.cells #[] 3)) (w.heap.size + 1) (.slice (some ⟨(w.alloc (.cells (ccs x a cap).toArray 33)).heap.size, 0, none⟩) 0 0) [] := World.ownsRow_made (w.alloc (.cells (ccs x a cap).toArray 33)) #[] 0 (by rw [e1]; exact Nat.le_refl _) (by decide) rfl
    rw [e1] at h; exact h
  have HB : Hid (Below w.heap.size w ((w.alloc (.cells (ccs x a cap).toArray 33)).alloc (.cells #[] 3))) := below_two _ _ _
  clear e1
  have k9 := fun v W => spec_l9v x a cap v W
  by_cases h12 : 12 < x.l.length
  · rw [cv_many h12]
    obtain ⟨h, r, i, l⟩ := x
    unfold cV at *
    unfold ccs at *
    simp only at HX HO HB hlen h12 ⊢
    have hz : (12 : Int) < (l.length : Int) := by omega
    have x3 := HX.out.cell 3 rfl
    clear k9
    go_enter Tryz.func13, Tryz.ntmps13
    go_wp2
    go_ret
    exact ⟨_, rfl, own_less HO.out (by omega), HB.out⟩
  rw [cv_few (by omega)]
  have hz : ¬ (12 : Int) < (x.l.length : Int) := by omega
  have HC : Hid (∀ k : Nat, (sgd x ((k : Int) + 1) = true → cvN x (k + 1) = cvN x k ++ [(k : Int) + 1]) ∧ (sgd x ((k : Int) + 1) = false → cvN x (k + 1) = cvN x k)) := fun k => ⟨cvN_yes, cvN_no⟩
  have HC0 : Hid (cvN x 0 = []) := rfl
  have HCl : Hid (∀ n, (cvN x n).length ≤ n) := cvN_len x
  have HG0 : Hid (∀ z, sgdN x 0 z = false) := fun z => by simp [sgdN]
  have HGn : Hid (∀ k z, x.l.length ≤ k → sgdN x k z = sgd x z) := fun k z h => sgdN_all h z
  have HGk : Hid (∀ k (hk : k < x.l.length) z, sgdN x (k + 1) z = (sgdN x k z || (decide (x.l[k].v = z) && sdB ⟨x.h, x.r, 2, x.i, z⟩ x.l[k].s))) := fun k hk z => sgdN_succ hk z
  generalize sgd x = F at *
  generalize sgdN x = G at *
  generalize cvN x = N at *
  obtain ⟨h, r, i, l⟩ := x
  unfold cV tV at *
  unfold ccs at *
  simp only at HX HO HB HL k9 hlen h12 hz HGn HGk ⊢
  have x3 := HX.out.cell 3 rfl
  go_enter Tryz.func13, Tryz.ntmps13
  go_wp2
  go_loopw [4, 3] (fun vv ov wr => ∃ (k : Nat) (q : Value), k ≤ 99 ∧ vv = .int .i64 ((k : Int) + 1) ∧ q = ov ∧ Hid (OwnI wr (w.heap.size + 1) q (N k)) ∧ Hid (Blk wr w.heap.size [.int .i64 h, .int .i64 r, .string i, .slice a l.length cap] 33) ∧ Hid (Below w.heap.size w wr)) (fun vv _ _ => 101 - (intOf vv).toNat)
  case atStart => exact ⟨0, _, by omega, rfl, rfl, by show OwnI _ _ _ _; rw [HC0.out]; exact HO.out, HX, HB⟩
  case round =>
    obtain ⟨k, q, hk, rfl, rfl, HO1, HX1, HB1⟩ := hrel
    clear x3 HX HO HB
    by_cases hlt : k < 99
    · have hltz : (k : Int) + 1 ≤ 99 := by omega
      obtain ⟨z, hzk⟩ : ∃ z : Int, (k : Int) + 1 = z := ⟨_, rfl⟩
      have HZK : Hid ((k : Int) + 1 = z) := hzk
      have hz1 : 1 ≤ z := by omega
      have hz99 : z ≤ 99 := by omega
      have HCk : Hid ((F z = true → N (k + 1) = N k ++ [z]) ∧ (F z = false → N (k + 1) = N k)) := by have := HC.out k; rw [hzk] at this; exact this
      have hNl := HCl.out k
      rw [hzk] at hltz ⊢
      clear hzk
      go_wp2
      go_loopw [6, 5] (fun iv bv wi => ∃ (j : Nat) (t : Bool), j ≤ l.length ∧ iv = .int .i64 j ∧ bv = .bool t ∧ Hid (t = G j z) ∧ Hid (OwnI wi (w.heap.size + 1) q (N k)) ∧ Hid (Blk wi w.heap.size [.int .i64 h, .int .i64 r, .string i, .slice a l.length cap] 33) ∧ Hid (Below w.heap.size w wi)) (fun iv _ _ => l.length - (intOf iv).toNat)
      case atStart => exact ⟨0, false, Nat.zero_le _, rfl, rfl, (HG0.out z).symm, HO1, HX1, HB1⟩
      case round =>
        obtain ⟨j, t, hj, rfl, rfl, HT, HO2, HX2, HB2⟩ := hrel
        clear HO1 HX1 HB1
        have x3 := HX2.out.cell 3 rfl
        by_cases hjt : j < l.length
        · have hjz : (j : Int) < (l.length : Int) := by omega
          rcases HL.out with h0 | ⟨b, o, rfl, hS⟩
          · omega
          obtain ⟨c1, c2⟩ := (hS.below HB2.out (hS.lt (by omega))) j hjt
          clear hS
          have HK : Hid (G (j + 1) z = (t || (decide (l[j].v = z) && sdB ⟨h, r, 2, i, z⟩ l[j].s))) := by show _ = _; rw [HT.out]; exact HGk.out j hjt z
          generalize l[j] = y at *
          obtain ⟨yv, ys⟩ := y
          simp only at c1 c2 HK
          have kS := fun W => spec_sd ⟨h, r, 2, i, z⟩ ys W
          unfold tV at kS
          generalize sdB ⟨h, r, 2, i, z⟩ ys = d at *
          simp only at kS
          have hne := bel_some wr
          have p0 := fun p : Bel wr => p.cell (HX2.out.cell 0 rfl)
          have p1 := fun p : Bel wr => p.cell (HX2.out.cell 1 rfl)
          have p2 := fun p : Bel wr => p.cell (HX2.out.cell 2 rfl)
          have p3 := fun p : Bel wr => p.cell (HX2.out.cell 3 rfl)
          have q0 := fun p : Bel wr => p.cell c1
          have q1 := fun p : Bel wr => p.cell c2
          cases t
          · by_cases hyz : yv = z
            · subst hyz
              have HK2 : Hid (d = G (j + 1) yv) := by show _ = _; rw [HK.out, decide_eq_true rfl, Bool.true_and, Bool.false_or]
              go_wp2_with fail
              refine wp_region_below (by kernel_rfl) (by kernel_rfl) ?_
              repeat (go_big_quiet_step (first | (go_at_call 54; exact bel_of (k9 _ _)) | (go_at_call 53; exact bel_of (kS _))))
              refine wpQuiet_nil ?_
              intro _ hw'
              obtain ⟨pq, hw''⟩ := hw'
              subst hw''
              have HO3 : Hid (OwnI pq.W (w.heap.size + 1) q (N k)) := own_keep HO2.out pq.h
              have HX3 : Hid (Blk pq.W w.heap.size [.int .i64 h, .int .i64 r, .string i, .slice (some ⟨b, o, none⟩) l.length cap] 33) := HX2.out.below pq.h HX2.out.lt
              have HB3 : Hid (Below w.heap.size w pq.W) := HB2.out.trans (pq.h.mono HB2.out.size)
              go_wp2
              go_roundw
              case rel => exact ⟨j + 1, d, by omega, by go_num, rfl, HK2, HO3, HX3, HB3⟩
              case measure => simp [intOf]; omega
            · have HK2 : Hid (false = G (j + 1) z) := by show _ = _; rw [HK.out, decide_eq_false hyz, Bool.false_and, Bool.false_or]
              have hbz : (yv == z) = false := beq_eq_false_iff_ne.2 hyz
              have hdz : decide (yv = z) = false := decide_eq_false hyz
              go_wp2_with fail
              refine wp_region_below (by kernel_rfl) (by kernel_rfl) ?_
              repeat (go_big_quiet_step (first | (go_at_call 54; exact bel_of (k9 _ _)) | (go_at_call 53; exact bel_of (kS _))))
              refine wpQuiet_nil ?_
              intro _ hw'
              obtain ⟨pq, hw''⟩ := hw'
              subst hw''
              have HO3 : Hid (OwnI pq.W (w.heap.size + 1) q (N k)) := own_keep HO2.out pq.h
              have HX3 : Hid (Blk pq.W w.heap.size [.int .i64 h, .int .i64 r, .string i, .slice (some ⟨b, o, none⟩) l.length cap] 33) := HX2.out.below pq.h HX2.out.lt
              have HB3 : Hid (Below w.heap.size w pq.W) := HB2.out.trans (pq.h.mono HB2.out.size)
              go_wp2
              go_roundw
              case rel => exact ⟨j + 1, false, by omega, by go_num, rfl, HK2, HO3, HX3, HB3⟩
              case measure => simp [intOf]; omega
          · have HK2 : Hid (true = G (j + 1) z) := by show _ = _; rw [HK.out, Bool.true_or]
            go_wp2_with fail
            refine wp_region_below (by kernel_rfl) (by kernel_rfl) ?_
            repeat (go_big_quiet_step (first | (go_at_call 54; exact bel_of (k9 _ _)) | (go_at_call 53; exact bel_of (kS _))))
            refine wpQuiet_nil ?_
            intro _ hw'
            obtain ⟨pq, hw''⟩ := hw'
            subst hw''
            have HO3 : Hid (OwnI pq.W (w.heap.size + 1) q (N k)) := own_keep HO2.out pq.h
            have HX3 : Hid (Blk pq.W w.heap.size [.int .i64 h, .int .i64 r, .string i, .slice (some ⟨b, o, none⟩) l.length cap] 33) := HX2.out.below pq.h HX2.out.lt
            have HB3 : Hid (Below w.heap.size w pq.W) := HB2.out.trans (pq.h.mono HB2.out.size)
            go_wp2
            go_roundw
            case rel => exact ⟨j + 1, true, by omega, by go_num, rfl, HK2, HO3, HX3, HB3⟩
            case measure => simp [intOf]; omega
        · have hjz : ¬ (j : Int) < (l.length : Int) := by omega
          have HT2 : Hid (F z = t) := by show _ = _; rw [HT.out, HGn.out j z (by omega)]
          have hws : w.heap.size ≤ wr.heap.size := HB2.out.size
          have hws1 : w.heap.size < wr.heap.size := HX2.out.lt
          clear HT
          cases t
          · have HN : Hid (N k = N (k + 1)) := (HCk.out.2 HT2.out).symm
            go_wp2
            go_roundw
            case rel =>
              have R : ∃ (k' : Nat) (q' : Value), k' ≤ 99 ∧ Value.int .i64 (z + 1) = .int .i64 ((k' : Int) + 1) ∧ q' = q ∧ Hid (OwnI wr (w.heap.size + 1) q' (N k')) ∧ Hid (Blk wr w.heap.size [.int .i64 h, .int .i64 r, .string i, .slice a l.length cap] 33) ∧ Hid (Below w.heap.size w wr) := ⟨k + 1, q, by omega, by rw [← HZK.out]; congr 1, rfl, by show OwnI _ _ _ _; rw [← HN.out]; exact HO2.out, HX2, HB2⟩
              first | exact R | ((repeat apply Exists.intro); exact ⟨R, rfl⟩)
            case measure => have := HZK.out; simp [intOf]; omega
          · have HN : Hid (N k ++ [z] = N (k + 1)) := (HCk.out.1 HT2.out).symm
            have HO3 : Hid (OwnI (wr.alloc (.cells #[.int .i64 z] 3)) (w.heap.size + 1) q (N k)) := own_keep HO2.out (below_one _ _)
            have HCe : Hid (_) := i64_row wr z wr.heap.size rfl
            have HB3 : Hid (Below w.heap.size w (wr.alloc (.cells #[.int .i64 z] 3))) := HB2.out.alloc HB2.out.size _
            have HX3 : Hid (Blk (wr.alloc (.cells #[.int .i64 z] 3)) w.heap.size [.int .i64 h, .int .i64 r, .string i, .slice a l.length cap] 33) := HX2.out.alloc _
            go_wp2_with (at_builtin; refine wpList_append_own _ rfl _ _ 42 rfl (w.heap.size + 1) 3 i0 (.int .i64 0) 1 8 Tryz.underlying42 hinf hz0 hz1' hz2 rfl (by decide) _ _ _ rfl HO3.out ⟨wr.heap.size, 0, none⟩ 1 1 ([i64v z]) rfl rfl HCe.out (i64v_one [z]) (by unfold maxLen; omega) (by omega) (by simp; omega) ?_)
            intro v' w2 hown' hgrow _
            have hqb : ∀ j, q.ownBlock = some j → w.heap.size + 1 ≤ j := fun j e => (HO3.out.lt j e).1
            have HO4 : Hid (OwnI w2 (w.heap.size + 1) v' (N k ++ [z])) := own_snocI hown'
            have HX4 : Hid (Blk w2 w.heap.size [.int .i64 h, .int .i64 r, .string i, .slice a l.length cap] 33) := HX3.out.grown hgrow (fun e => by have := hqb _ e; omega)
            have HB4 : Hid (Below w.heap.size w w2) := HB3.out.grown hgrow HB3.out.size (fun j hj => by have := hqb j hj; omega)
            clear hown' hgrow hqb HO3 HX3 HB3 HCe HO2 HX2 HB2
            go_wp2
            go_roundw
            case rel =>
              have R : ∃ (k' : Nat) (q' : Value), k' ≤ 99 ∧ Value.int .i64 (z + 1) = .int .i64 ((k' : Int) + 1) ∧ q' = v' ∧ Hid (OwnI w2 (w.heap.size + 1) q' (N k')) ∧ Hid (Blk w2 w.heap.size [.int .i64 h, .int .i64 r, .string i, .slice a l.length cap] 33) ∧ Hid (Below w.heap.size w w2) := ⟨k + 1, v', by omega, by rw [← HZK.out]; congr 1, rfl, by show OwnI _ _ _ _; rw [← HN.out]; exact HO4.out, HX4, HB4⟩
              first | exact R | ((repeat apply Exists.intro); exact ⟨R, rfl⟩)
            case measure => have := HZK.out; simp [intOf]; omega
    · have hltz : ¬ (k : Int) + 1 ≤ 99 := by omega
      have hk99 : k = 99 := by omega
      subst hk99
      go_wp2
      go_ret
      exact ⟨_, rfl, own_less HO1.out (by omega), HB1.out⟩
end Go.Proofs.YtajfmjgaaapjeaaGreatDoor
