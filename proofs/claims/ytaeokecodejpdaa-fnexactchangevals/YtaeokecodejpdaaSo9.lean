/- What spec.l6Change answers; old memory stays. Conditions: rows of at most 2 to the 22. -/
import Derived.Test.YtaeokecodejpdaaSo8
namespace Go.Proofs.Ytaeokecodejpdaa
open Go.RowKit
open Num
set_option linter.unusedVariables false
theorem st6_len (x : V) (l : List V) : (st6 x l).1.length + (bif (st6 x l).2.1 then 0 else 1) ≤ l.length + 1 := by
  revert l
  refine snoc_ind ?_ fun l v ih => ?_
  · simp [st6]; cases decide (x.p = 0) <;> simp
  · rw [st6_snoc]
    generalize st6 x l = s at *
    obtain ⟨o, p, q⟩ := s
    unfold step6
    simp only at ih ⊢
    rw [List.length_append]
    cases p <;> cases decide (x.i ≤ v.i) <;> by_cases h : v.i = x.i <;> simp [h] at ih ⊢ <;> omega
theorem c6_len (l : List V) (x : V) : (c6 l x).1.length ≤ l.length + 1 := by
  have := st6_len x l
  unfold c6
  cases h : (st6 x l).2.1 <;> rw [h] at this <;> simp at this ⊢ <;> omega
set_option maxHeartbeats 3200000 in
set_option maxRecDepth 100000 in
theorem l6_any (a : Option Addr) (l : List V) (cap : Nat) (x : V) (w : World) (hl : VO w a l) (hlen : l.length ≤ 4194304) :
    Calls Try.prog 12 #[.slice a l.length cap, .agg #[.int .i64 x.i, .int .i64 x.p]] w fun e w' => ∃ (v : Value), e = .returned (.tuple #[v, .bool (c6 l x).2]) ∧ Hid (OwnV w' w.heap.size v (c6 l x).1) ∧ Hid (Below w.heap.size w w') := by
  obtain ⟨i0, hinf, hz0, hz1, hz2⟩ := info33f
  have HL : Hid (VO w a l) := hl
  clear hl
  obtain ⟨xi, xp⟩ := x
  simp only
  have f1 : (w.alloc (.cells #[.int .i64 xi, .int .i64 xp] 34)).cell? ⟨w.heap.size, 0, none⟩ = some (.int .i64 xi) := by simp
  have f2 : (w.alloc (.cells #[.int .i64 xi, .int .i64 xp] 34)).cell? ⟨w.heap.size, 1, none⟩ = some (.int .i64 xp) := by simp
  have hs1 : (w.alloc (.cells #[.int .i64 xi, .int .i64 xp] 34)).heap.size = w.heap.size + 1 := by simp
  have HB1 : Hid (Below w.heap.size w (w.alloc (.cells #[.int .i64 xi, .int .i64 xp] 34))) := (Below.refl _ _).alloc (Nat.le_refl _) _
  have hp0 : (xp == 0) = decide (xp = 0) := by by_cases h : xp = 0 <;> simp [h]
  go_enter Try.func12, Try.ntmps12
  go_wp2_with fail
  generalize w.alloc (Obj.cells #[Value.int .i64 xi, Value.int .i64 xp] 34) = w1 at *
  have HO0 : Hid (OwnV (w1.alloc (.cells #[] 34)) (w.heap.size + 1) (.slice (some ⟨w.heap.size + 1, 0, none⟩) 0 0) []) := by
    show OwnV _ _ _ _
    rw [← hs1]
    exact World.ownsRow_made w1 #[] 0 (Nat.le_refl _) (by decide) rfl
  have HB0 : Hid (Below (w.heap.size + 1) w1 (w1.alloc (.cells #[] 34))) := (Below.refl _ _).alloc (by omega) _
  have hcx : ∀ W : World, Below (w.heap.size + 1) w1 W → W.cell? ⟨w.heap.size, 0, none⟩ = some (.int .i64 xi) ∧ W.cell? ⟨w.heap.size, 1, none⟩ = some (.int .i64 xp) := fun W h =>
    ⟨(h.cell (p := ⟨w.heap.size, 0, none⟩) (Nat.lt_succ_self _)).trans f1, (h.cell (p := ⟨w.heap.size, 1, none⟩) (Nat.lt_succ_self _)).trans f2⟩
  have HXX : Hid (_) := hcx
  clear f1 f2 hcx
  go_loopw [9, 6, 7, 8] (fun iv ov pv sv wr => ∃ (k : Nat) (q : Value) (out : List V) (put was : Bool), k ≤ l.length ∧ iv = .int .i64 k ∧ q = ov ∧ pv = .bool put ∧ sv = .bool was ∧ Hid (st6 ⟨xi, xp⟩ (l.take k) = (out, put, was)) ∧ Hid (OwnV wr (w.heap.size + 1) q out) ∧ Hid (Below (w.heap.size + 1) w1 wr)) (fun iv _ _ _ _ => l.length - (intOf iv).toNat)
  case atStart => exact ⟨0, _, [], decide (xp = 0), false, Nat.zero_le _, rfl, rfl, by first | rfl | rw [hp0], rfl, rfl, HO0, HB0⟩
  case round =>
    clear HO0 HB0
    obtain ⟨k, q, out, put, was, hk, rfl, rfl, rfl, rfl, HS, HOc, HBc⟩ := hrel
    have holen : out.length ≤ k + 1 := by
      have := st6_len ⟨xi, xp⟩ (l.take k)
      rw [HS.out] at this
      simp only [List.length_take] at this
      cases put <;> simp at this <;> omega
    by_cases hlt : k < l.length
    · have hltz : (k : Int) < (l.length : Int) := by omega
      rcases HL.out with h0 | ⟨b, o, rfl, hv0⟩
      · omega
      obtain ⟨v, hv⟩ : ∃ v, l[k] = v := ⟨_, rfl⟩
      obtain ⟨vi, vp⟩ := v
      have hcy : ∀ W : World, Below (w.heap.size + 1) w1 W → W.cell? ⟨b, o + k * 2, none⟩ = some (.int .i64 vi) ∧ W.cell? ⟨b, o + k * 2 + 1, none⟩ = some (.int .i64 vp) := fun W h => by
        have h1 := (hv0.below (HB1.out.trans (h.mono (Nat.le_succ _)))) k hlt
        rw [hv] at h1
        exact h1
      have HX : Hid (∀ W : World, Below (w.heap.size + 1) w1 W → W.cell? ⟨w.heap.size, 0, none⟩ = some (.int .i64 xi) ∧ W.cell? ⟨w.heap.size, 1, none⟩ = some (.int .i64 xp) ∧ W.cell? ⟨b, o + k * 2, none⟩ = some (.int .i64 vi) ∧ W.cell? ⟨b, o + k * 2 + 1, none⟩ = some (.int .i64 vp)) := fun W h => ⟨(HXX.out W h).1, (HXX.out W h).2, (hcy W h).1, (hcy W h).2⟩
      have HSS : Hid (st6 ⟨xi, xp⟩ (l.take (k + 1)) = step6 ⟨xi, xp⟩ (out, put, was) ⟨vi, vp⟩) := by show _ = _; rw [st6_take _ _ _ hlt, HS.out, hv]
      clear hv hv0 hcy HS
      obtain ⟨x1, x2, y1, y2⟩ := HX.out wr HBc.out
      have hsw : w.heap.size + 1 ≤ wr.heap.size := by have := HBc.out.size; omega
      cases put
      · by_cases hge : xi ≤ vi
        · have HN : Hid (st6 ⟨xi, xp⟩ (l.take (k + 1)) = if vi = xi then (out ++ [⟨xi, xp⟩], true, true) else (out ++ [⟨xi, xp⟩] ++ [⟨vi, vp⟩], true, was)) := by show _ = _; rw [HSS.out]; simp [step6, hge]
          clear HSS

          have hne := bel_some wr
          have e1 := fun p : Bel wr => p.cell x1
          have e2 := fun p : Bel wr => p.cell x2
          have e3 := fun p : Bel wr => p.cell y1
          have e4 := fun p : Bel wr => p.cell y2
          clear x1 x2 y1 y2 hsw
          go_wp2_with fail

          refine wp_region_below (by kernel_rfl) (by kernel_rfl) ?_
          repeat (go_big_quiet_step (fail))
          refine wpQuiet_nil ?_
          intro _ hw'
          obtain ⟨pq, hw''⟩ := hw'
          subst hw''

          have HOp : Hid (OwnV pq.W (w.heap.size + 1) (q) (out)) := own_below HOc.out pq.h
          have HBp : Hid (Below (w.heap.size + 1) w1 pq.W) := HBc.out.trans (pq.h.mono (by have := HBc.out.size; omega))
          clear e1 e2 e3 e4 hne HOc HBc
          generalize pq.W = wp at *
          rename Hid (OwnV wp _ _ _) => HOc
          rename Hid (Below _ w1 wp) => HBc
          obtain ⟨x1, x2, y1, y2⟩ := HX.out wp HBc.out
          have hsw : w.heap.size + 1 ≤ wp.heap.size := by have := HBc.out.size; omega

          have HO6 : Hid (OwnV (wp.alloc (.cells #[.int .i64 xi, .int .i64 xp] 34)) (w.heap.size + 1) (q) (out)) := World.ownsRow.alloc HOc.out _
          have HC : Hid (_) := one_val wp ⟨xi, xp⟩ wp.heap.size rfl
          have hql : (out).length ≤ 8388608 := by first | omega | (simp only [List.length_append, List.length_singleton]; omega)
          obtain ⟨aq, capq, hqE, _, hcl, hcm⟩ := OwnV.o HOc.out
          clear hqE
          go_wp2_with (at_builtin; refine wpList_append_own _ rfl _ _ 24 rfl (w.heap.size + 1) 34 i0 (.agg #[.int .i64 0, .int .i64 0]) 2 16 Try.underlying24 hinf hz0 hz1 hz2 rfl (by decide) _ _ _ rfl HO6.out ⟨wp.heap.size, 0, none⟩ 1 1 (vals [⟨xi, xp⟩]) rfl rfl HC.out (vals_one _) (by unfold maxLen; omega) (by omega) (by simp; omega) ?_)
          intro v4 w4 hown' hgrow _
          have HO7 : Hid (OwnV w4 (w.heap.size + 1) v4 ((out) ++ [(⟨xi, xp⟩ : V)])) := own_snocV (by first | exact hown' | (rw [List.length_append]; exact hown'))
          have HB7 : Hid (Below (w.heap.size + 1) w1 w4) := (HBc.out.alloc (by rw [← hs1]; exact HBc.out.size) (.cells #[.int .i64 xi, .int .i64 xp] 34)).grown hgrow (by simp; omega) (fun j hj => (HOc.out.lt j hj).1)
          clear hgrow hown' HC HO6 HOc HBc hql hcl hcm x1 x2 y1 y2 hsw
          rename Hid (OwnV w4 _ _ _) => HOc
          rename Hid (Below _ w1 w4) => HBc
          obtain ⟨x1, x2, y1, y2⟩ := HX.out w4 HBc.out
          have hsw : w.heap.size + 1 ≤ w4.heap.size := by have := HBc.out.size; omega

          have hne := bel_some w4
          have e1 := fun p : Bel w4 => p.cell x1
          have e2 := fun p : Bel w4 => p.cell x2
          have e3 := fun p : Bel w4 => p.cell y1
          have e4 := fun p : Bel w4 => p.cell y2
          clear x1 x2 y1 y2 hsw
          go_wp2_with fail
          by_cases hi : vi = xi
          · have HST : Hid (st6 ⟨xi, xp⟩ (l.take (k + 1)) = (out ++ [(⟨xi, xp⟩ : V)], true, true)) := by show _ = _; rw [HN.out, if_pos hi]
            clear HN
            have hi' := hi.symm
            clear hi
            subst hi'

            refine wp_region_below (by kernel_rfl) (by kernel_rfl) ?_
            repeat (go_big_quiet_step (fail))
            refine wpQuiet_nil ?_
            intro _ hw'
            obtain ⟨pq, hw''⟩ := hw'
            subst hw''

            have HOp : Hid (OwnV pq.W (w.heap.size + 1) (v4) (out ++ [(⟨xi, xp⟩ : V)])) := own_below HOc.out pq.h
            have HBp : Hid (Below (w.heap.size + 1) w1 pq.W) := HBc.out.trans (pq.h.mono (by have := HBc.out.size; omega))
            clear e1 e2 e3 e4 hne HOc HBc
            generalize pq.W = wq at *
            rename Hid (OwnV wq _ _ _) => HOc
            rename Hid (Below _ w1 wq) => HBc
            obtain ⟨x1, x2, y1, y2⟩ := HX.out wq HBc.out
            have hsw : w.heap.size + 1 ≤ wq.heap.size := by have := HBc.out.size; omega
            go_wp2

            go_roundw
            case rel =>
              have R : ∃ (k' : Nat) (q' : Value) (out' : List V) (put' was' : Bool), k' ≤ l.length ∧ Value.int .i64 ((k : Int) + 1) = .int .i64 k' ∧ q' = v4 ∧ Value.bool true = .bool put' ∧ Value.bool true = .bool was' ∧ Hid (st6 ⟨xi, xp⟩ (l.take k') = (out', put', was')) ∧ Hid (OwnV wq (w.heap.size + 1) q' out') ∧ Hid (Below (w.heap.size + 1) w1 wq) := ⟨k + 1, _, out ++ [(⟨xi, xp⟩ : V)], true, true, by omega, by go_num, rfl, rfl, rfl, HST, HOc, HBc⟩
              first | exact R | ((repeat apply Exists.intro); exact ⟨R, rfl⟩)
            case measure => simp [intOf]; omega
          · have HST : Hid (st6 ⟨xi, xp⟩ (l.take (k + 1)) = ((out ++ [(⟨xi, xp⟩ : V)]) ++ [(⟨vi, vp⟩ : V)], true, was)) := by show _ = _; rw [HN.out, if_neg hi]
            clear HN

            refine wp_region_below (by kernel_rfl) (by kernel_rfl) ?_
            repeat (go_big_quiet_step (fail))
            refine wpQuiet_nil ?_
            intro _ hw'
            obtain ⟨pq, hw''⟩ := hw'
            subst hw''

            have HOp : Hid (OwnV pq.W (w.heap.size + 1) (v4) (out ++ [(⟨xi, xp⟩ : V)])) := own_below HOc.out pq.h
            have HBp : Hid (Below (w.heap.size + 1) w1 pq.W) := HBc.out.trans (pq.h.mono (by have := HBc.out.size; omega))
            clear e1 e2 e3 e4 hne HOc HBc
            generalize pq.W = wq at *
            rename Hid (OwnV wq _ _ _) => HOc
            rename Hid (Below _ w1 wq) => HBc
            obtain ⟨x1, x2, y1, y2⟩ := HX.out wq HBc.out
            have hsw : w.heap.size + 1 ≤ wq.heap.size := by have := HBc.out.size; omega

            have HO6 : Hid (OwnV (wq.alloc (.cells #[.int .i64 vi, .int .i64 vp] 34)) (w.heap.size + 1) (v4) (out ++ [(⟨xi, xp⟩ : V)])) := World.ownsRow.alloc HOc.out _
            have HC : Hid (_) := one_val wq ⟨vi, vp⟩ wq.heap.size rfl
            have hql : (out ++ [(⟨xi, xp⟩ : V)]).length ≤ 8388608 := by first | omega | (simp only [List.length_append, List.length_singleton]; omega)
            obtain ⟨aq, capq, hqE, _, hcl, hcm⟩ := OwnV.o HOc.out
            clear hqE
            go_wp2_with (at_builtin; refine wpList_append_own _ rfl _ _ 24 rfl (w.heap.size + 1) 34 i0 (.agg #[.int .i64 0, .int .i64 0]) 2 16 Try.underlying24 hinf hz0 hz1 hz2 rfl (by decide) _ _ _ rfl HO6.out ⟨wq.heap.size, 0, none⟩ 1 1 (vals [⟨vi, vp⟩]) rfl rfl HC.out (vals_one _) (by unfold maxLen; omega) (by omega) (by simp; omega) ?_)
            intro v5 w5 hown' hgrow _
            have HO7 : Hid (OwnV w5 (w.heap.size + 1) v5 ((out ++ [(⟨xi, xp⟩ : V)]) ++ [(⟨vi, vp⟩ : V)])) := own_snocV (by first | exact hown' | (rw [List.length_append]; exact hown'))
            have HB7 : Hid (Below (w.heap.size + 1) w1 w5) := (HBc.out.alloc (by rw [← hs1]; exact HBc.out.size) (.cells #[.int .i64 vi, .int .i64 vp] 34)).grown hgrow (by simp; omega) (fun j hj => (HOc.out.lt j hj).1)
            clear hgrow hown' HC HO6 HOc HBc hql hcl hcm x1 x2 y1 y2 hsw
            rename Hid (OwnV w5 _ _ _) => HOc
            rename Hid (Below _ w1 w5) => HBc
            obtain ⟨x1, x2, y1, y2⟩ := HX.out w5 HBc.out
            have hsw : w.heap.size + 1 ≤ w5.heap.size := by have := HBc.out.size; omega
            go_wp2

            go_roundw
            case rel =>
              have R : ∃ (k' : Nat) (q' : Value) (out' : List V) (put' was' : Bool), k' ≤ l.length ∧ Value.int .i64 ((k : Int) + 1) = .int .i64 k' ∧ q' = v5 ∧ Value.bool true = .bool put' ∧ Value.bool was = .bool was' ∧ Hid (st6 ⟨xi, xp⟩ (l.take k') = (out', put', was')) ∧ Hid (OwnV w5 (w.heap.size + 1) q' out') ∧ Hid (Below (w.heap.size + 1) w1 w5) := ⟨k + 1, _, (out ++ [(⟨xi, xp⟩ : V)]) ++ [(⟨vi, vp⟩ : V)], true, was, by omega, by go_num, rfl, rfl, rfl, HST, HOc, HBc⟩
              first | exact R | ((repeat apply Exists.intro); exact ⟨R, rfl⟩)
            case measure => simp [intOf]; omega
        · have HN : Hid (st6 ⟨xi, xp⟩ (l.take (k + 1)) = if vi = xi then (out, false, true) else (out ++ [⟨vi, vp⟩], false, was)) := by show _ = _; rw [HSS.out]; simp [step6, hge]
          clear HSS

          have hne := bel_some wr
          have e1 := fun p : Bel wr => p.cell x1
          have e2 := fun p : Bel wr => p.cell x2
          have e3 := fun p : Bel wr => p.cell y1
          have e4 := fun p : Bel wr => p.cell y2
          clear x1 x2 y1 y2 hsw
          go_wp2_with fail

          refine wp_region_below (by kernel_rfl) (by kernel_rfl) ?_
          repeat (go_big_quiet_step (fail))
          refine wpQuiet_nil ?_
          intro _ hw'
          obtain ⟨pq, hw''⟩ := hw'
          subst hw''

          have HOp : Hid (OwnV pq.W (w.heap.size + 1) (q) (out)) := own_below HOc.out pq.h
          have HBp : Hid (Below (w.heap.size + 1) w1 pq.W) := HBc.out.trans (pq.h.mono (by have := HBc.out.size; omega))
          clear e1 e2 e3 e4 hne HOc HBc
          generalize pq.W = wp at *
          rename Hid (OwnV wp _ _ _) => HOc
          rename Hid (Below _ w1 wp) => HBc
          obtain ⟨x1, x2, y1, y2⟩ := HX.out wp HBc.out
          have hsw : w.heap.size + 1 ≤ wp.heap.size := by have := HBc.out.size; omega

          have hne := bel_some wp
          have e1 := fun p : Bel wp => p.cell x1
          have e2 := fun p : Bel wp => p.cell x2
          have e3 := fun p : Bel wp => p.cell y1
          have e4 := fun p : Bel wp => p.cell y2
          clear x1 x2 y1 y2 hsw
          go_wp2_with fail
          by_cases hi : vi = xi
          · exact absurd hi (by omega)
          · have HST : Hid (st6 ⟨xi, xp⟩ (l.take (k + 1)) = ((out) ++ [(⟨vi, vp⟩ : V)], false, was)) := by show _ = _; rw [HN.out, if_neg hi]
            clear HN

            refine wp_region_below (by kernel_rfl) (by kernel_rfl) ?_
            repeat (go_big_quiet_step (fail))
            refine wpQuiet_nil ?_
            intro _ hw'
            obtain ⟨pq, hw''⟩ := hw'
            subst hw''

            have HOp : Hid (OwnV pq.W (w.heap.size + 1) (q) (out)) := own_below HOc.out pq.h
            have HBp : Hid (Below (w.heap.size + 1) w1 pq.W) := HBc.out.trans (pq.h.mono (by have := HBc.out.size; omega))
            clear e1 e2 e3 e4 hne HOc HBc
            generalize pq.W = wq at *
            rename Hid (OwnV wq _ _ _) => HOc
            rename Hid (Below _ w1 wq) => HBc
            obtain ⟨x1, x2, y1, y2⟩ := HX.out wq HBc.out
            have hsw : w.heap.size + 1 ≤ wq.heap.size := by have := HBc.out.size; omega

            have HO6 : Hid (OwnV (wq.alloc (.cells #[.int .i64 vi, .int .i64 vp] 34)) (w.heap.size + 1) (q) (out)) := World.ownsRow.alloc HOc.out _
            have HC : Hid (_) := one_val wq ⟨vi, vp⟩ wq.heap.size rfl
            have hql : (out).length ≤ 8388608 := by first | omega | (simp only [List.length_append, List.length_singleton]; omega)
            obtain ⟨aq, capq, hqE, _, hcl, hcm⟩ := OwnV.o HOc.out
            clear hqE
            go_wp2_with (at_builtin; refine wpList_append_own _ rfl _ _ 24 rfl (w.heap.size + 1) 34 i0 (.agg #[.int .i64 0, .int .i64 0]) 2 16 Try.underlying24 hinf hz0 hz1 hz2 rfl (by decide) _ _ _ rfl HO6.out ⟨wq.heap.size, 0, none⟩ 1 1 (vals [⟨vi, vp⟩]) rfl rfl HC.out (vals_one _) (by unfold maxLen; omega) (by omega) (by simp; omega) ?_)
            intro v5 w5 hown' hgrow _
            have HO7 : Hid (OwnV w5 (w.heap.size + 1) v5 ((out) ++ [(⟨vi, vp⟩ : V)])) := own_snocV (by first | exact hown' | (rw [List.length_append]; exact hown'))
            have HB7 : Hid (Below (w.heap.size + 1) w1 w5) := (HBc.out.alloc (by rw [← hs1]; exact HBc.out.size) (.cells #[.int .i64 vi, .int .i64 vp] 34)).grown hgrow (by simp; omega) (fun j hj => (HOc.out.lt j hj).1)
            clear hgrow hown' HC HO6 HOc HBc hql hcl hcm x1 x2 y1 y2 hsw
            rename Hid (OwnV w5 _ _ _) => HOc
            rename Hid (Below _ w1 w5) => HBc
            obtain ⟨x1, x2, y1, y2⟩ := HX.out w5 HBc.out
            have hsw : w.heap.size + 1 ≤ w5.heap.size := by have := HBc.out.size; omega
            go_wp2

            go_roundw
            case rel =>
              have R : ∃ (k' : Nat) (q' : Value) (out' : List V) (put' was' : Bool), k' ≤ l.length ∧ Value.int .i64 ((k : Int) + 1) = .int .i64 k' ∧ q' = v5 ∧ Value.bool false = .bool put' ∧ Value.bool was = .bool was' ∧ Hid (st6 ⟨xi, xp⟩ (l.take k') = (out', put', was')) ∧ Hid (OwnV w5 (w.heap.size + 1) q' out') ∧ Hid (Below (w.heap.size + 1) w1 w5) := ⟨k + 1, _, (out) ++ [(⟨vi, vp⟩ : V)], false, was, by omega, by go_num, rfl, rfl, rfl, HST, HOc, HBc⟩
              first | exact R | ((repeat apply Exists.intro); exact ⟨R, rfl⟩)
            case measure => simp [intOf]; omega
      · have HN : Hid (st6 ⟨xi, xp⟩ (l.take (k + 1)) = if vi = xi then (out, true, true) else (out ++ [⟨vi, vp⟩], true, was)) := by show _ = _; rw [HSS.out]; simp [step6]
        clear HSS

        have hne := bel_some wr
        have e1 := fun p : Bel wr => p.cell x1
        have e2 := fun p : Bel wr => p.cell x2
        have e3 := fun p : Bel wr => p.cell y1
        have e4 := fun p : Bel wr => p.cell y2
        clear x1 x2 y1 y2 hsw
        go_wp2_with fail

        refine wp_region_below (by kernel_rfl) (by kernel_rfl) ?_
        repeat (go_big_quiet_step (fail))
        refine wpQuiet_nil ?_
        intro _ hw'
        obtain ⟨pq, hw''⟩ := hw'
        subst hw''

        have HOp : Hid (OwnV pq.W (w.heap.size + 1) (q) (out)) := own_below HOc.out pq.h
        have HBp : Hid (Below (w.heap.size + 1) w1 pq.W) := HBc.out.trans (pq.h.mono (by have := HBc.out.size; omega))
        clear e1 e2 e3 e4 hne HOc HBc
        generalize pq.W = wp at *
        rename Hid (OwnV wp _ _ _) => HOc
        rename Hid (Below _ w1 wp) => HBc
        obtain ⟨x1, x2, y1, y2⟩ := HX.out wp HBc.out
        have hsw : w.heap.size + 1 ≤ wp.heap.size := by have := HBc.out.size; omega

        have hne := bel_some wp
        have e1 := fun p : Bel wp => p.cell x1
        have e2 := fun p : Bel wp => p.cell x2
        have e3 := fun p : Bel wp => p.cell y1
        have e4 := fun p : Bel wp => p.cell y2
        clear x1 x2 y1 y2 hsw
        go_wp2_with fail
        by_cases hi : vi = xi
        · have HST : Hid (st6 ⟨xi, xp⟩ (l.take (k + 1)) = (out, true, true)) := by show _ = _; rw [HN.out, if_pos hi]
          clear HN
          have hi' := hi.symm
          clear hi
          subst hi'

          refine wp_region_below (by kernel_rfl) (by kernel_rfl) ?_
          repeat (go_big_quiet_step (fail))
          refine wpQuiet_nil ?_
          intro _ hw'
          obtain ⟨pq, hw''⟩ := hw'
          subst hw''

          have HOp : Hid (OwnV pq.W (w.heap.size + 1) (q) (out)) := own_below HOc.out pq.h
          have HBp : Hid (Below (w.heap.size + 1) w1 pq.W) := HBc.out.trans (pq.h.mono (by have := HBc.out.size; omega))
          clear e1 e2 e3 e4 hne HOc HBc
          generalize pq.W = wq at *
          rename Hid (OwnV wq _ _ _) => HOc
          rename Hid (Below _ w1 wq) => HBc
          obtain ⟨x1, x2, y1, y2⟩ := HX.out wq HBc.out
          have hsw : w.heap.size + 1 ≤ wq.heap.size := by have := HBc.out.size; omega
          go_wp2

          go_roundw
          case rel =>
            have R : ∃ (k' : Nat) (q' : Value) (out' : List V) (put' was' : Bool), k' ≤ l.length ∧ Value.int .i64 ((k : Int) + 1) = .int .i64 k' ∧ q' = q ∧ Value.bool true = .bool put' ∧ Value.bool true = .bool was' ∧ Hid (st6 ⟨xi, xp⟩ (l.take k') = (out', put', was')) ∧ Hid (OwnV wq (w.heap.size + 1) q' out') ∧ Hid (Below (w.heap.size + 1) w1 wq) := ⟨k + 1, _, out, true, true, by omega, by go_num, rfl, rfl, rfl, HST, HOc, HBc⟩
            first | exact R | ((repeat apply Exists.intro); exact ⟨R, rfl⟩)
          case measure => simp [intOf]; omega
        · have HST : Hid (st6 ⟨xi, xp⟩ (l.take (k + 1)) = ((out) ++ [(⟨vi, vp⟩ : V)], true, was)) := by show _ = _; rw [HN.out, if_neg hi]
          clear HN

          refine wp_region_below (by kernel_rfl) (by kernel_rfl) ?_
          repeat (go_big_quiet_step (fail))
          refine wpQuiet_nil ?_
          intro _ hw'
          obtain ⟨pq, hw''⟩ := hw'
          subst hw''

          have HOp : Hid (OwnV pq.W (w.heap.size + 1) (q) (out)) := own_below HOc.out pq.h
          have HBp : Hid (Below (w.heap.size + 1) w1 pq.W) := HBc.out.trans (pq.h.mono (by have := HBc.out.size; omega))
          clear e1 e2 e3 e4 hne HOc HBc
          generalize pq.W = wq at *
          rename Hid (OwnV wq _ _ _) => HOc
          rename Hid (Below _ w1 wq) => HBc
          obtain ⟨x1, x2, y1, y2⟩ := HX.out wq HBc.out
          have hsw : w.heap.size + 1 ≤ wq.heap.size := by have := HBc.out.size; omega

          have HO6 : Hid (OwnV (wq.alloc (.cells #[.int .i64 vi, .int .i64 vp] 34)) (w.heap.size + 1) (q) (out)) := World.ownsRow.alloc HOc.out _
          have HC : Hid (_) := one_val wq ⟨vi, vp⟩ wq.heap.size rfl
          have hql : (out).length ≤ 8388608 := by first | omega | (simp only [List.length_append, List.length_singleton]; omega)
          obtain ⟨aq, capq, hqE, _, hcl, hcm⟩ := OwnV.o HOc.out
          clear hqE
          go_wp2_with (at_builtin; refine wpList_append_own _ rfl _ _ 24 rfl (w.heap.size + 1) 34 i0 (.agg #[.int .i64 0, .int .i64 0]) 2 16 Try.underlying24 hinf hz0 hz1 hz2 rfl (by decide) _ _ _ rfl HO6.out ⟨wq.heap.size, 0, none⟩ 1 1 (vals [⟨vi, vp⟩]) rfl rfl HC.out (vals_one _) (by unfold maxLen; omega) (by omega) (by simp; omega) ?_)
          intro v5 w5 hown' hgrow _
          have HO7 : Hid (OwnV w5 (w.heap.size + 1) v5 ((out) ++ [(⟨vi, vp⟩ : V)])) := own_snocV (by first | exact hown' | (rw [List.length_append]; exact hown'))
          have HB7 : Hid (Below (w.heap.size + 1) w1 w5) := (HBc.out.alloc (by rw [← hs1]; exact HBc.out.size) (.cells #[.int .i64 vi, .int .i64 vp] 34)).grown hgrow (by simp; omega) (fun j hj => (HOc.out.lt j hj).1)
          clear hgrow hown' HC HO6 HOc HBc hql hcl hcm x1 x2 y1 y2 hsw
          rename Hid (OwnV w5 _ _ _) => HOc
          rename Hid (Below _ w1 w5) => HBc
          obtain ⟨x1, x2, y1, y2⟩ := HX.out w5 HBc.out
          have hsw : w.heap.size + 1 ≤ w5.heap.size := by have := HBc.out.size; omega
          go_wp2

          go_roundw
          case rel =>
            have R : ∃ (k' : Nat) (q' : Value) (out' : List V) (put' was' : Bool), k' ≤ l.length ∧ Value.int .i64 ((k : Int) + 1) = .int .i64 k' ∧ q' = v5 ∧ Value.bool true = .bool put' ∧ Value.bool was = .bool was' ∧ Hid (st6 ⟨xi, xp⟩ (l.take k') = (out', put', was')) ∧ Hid (OwnV w5 (w.heap.size + 1) q' out') ∧ Hid (Below (w.heap.size + 1) w1 w5) := ⟨k + 1, _, (out) ++ [(⟨vi, vp⟩ : V)], true, was, by omega, by go_num, rfl, rfl, rfl, HST, HOc, HBc⟩
            first | exact R | ((repeat apply Exists.intro); exact ⟨R, rfl⟩)
          case measure => simp [intOf]; omega
    · have hltz : ¬ (k : Int) < (l.length : Int) := by omega
      have hkl : l.take k = l := List.take_of_length_le (by omega)
      have HC6 : Hid (c6 l ⟨xi, xp⟩ = (bif put then out else out ++ [⟨xi, xp⟩], was || decide (xp ≠ 0))) := by
        show _ = _
        have := HS.out
        rw [hkl] at this
        unfold c6; rw [this]
      clear HS hkl
      obtain ⟨x1, x2⟩ := HXX.out wr HBc.out
      have hsw : w.heap.size + 1 ≤ wr.heap.size := by have := HBc.out.size; omega
      cases put
      · have HO6 : Hid (OwnV (wr.alloc (.cells #[.int .i64 xi, .int .i64 xp] 34)) (w.heap.size + 1) q out) := World.ownsRow.alloc HOc.out _
        have HC : Hid (_) := one_val wr ⟨xi, xp⟩ wr.heap.size rfl
        obtain ⟨aq, capq, hqE, _, hcl, hcm⟩ := OwnV.o HOc.out
        clear hqE
        go_wp2_with (at_builtin; refine wpList_append_own _ rfl _ _ 24 rfl (w.heap.size + 1) 34 i0 (.agg #[.int .i64 0, .int .i64 0]) 2 16 Try.underlying24 hinf hz0 hz1 hz2 rfl (by decide) _ _ _ rfl HO6.out ⟨wr.heap.size, 0, none⟩ 1 1 (vals [⟨xi, xp⟩]) rfl rfl HC.out (vals_one _) (by unfold maxLen; omega) (by omega) (by simp; omega) ?_)
        intro v4 w4 hown' hgrow _
        have HO7 : Hid (OwnV w4 (w.heap.size + 1) v4 (out ++ [(⟨xi, xp⟩ : V)])) := own_snocV hown'
        have HB7 : Hid (Below (w.heap.size + 1) w1 w4) := (HBc.out.alloc (by rw [← hs1]; exact HBc.out.size) (.cells #[.int .i64 xi, .int .i64 xp] 34)).grown hgrow (by simp; omega) (fun j hj => (HOc.out.lt j hj).1)
        clear hgrow hown' HC HO6 HOc HBc hcl hcm x1 x2 hsw
        obtain ⟨x1, x2⟩ := HXX.out w4 HB7.out
        have hne := bel_some w4
        have e1 := fun p : Bel w4 => p.cell x1
        have e2 := fun p : Bel w4 => p.cell x2
        clear x1 x2
        go_wp2_with fail
        cases was
        · have HC7 : Hid (c6 l ⟨xi, xp⟩ = ((out ++ [(⟨xi, xp⟩ : V)]), xp != 0)) := by show _ = _; rw [HC6.out]; by_cases h : xp = 0 <;> simp [h]
          clear HC6
          rename Hid (c6 l _ = _) => HC6
          
          refine wp_region_below (by kernel_rfl) (by kernel_rfl) ?_
          repeat (go_big_quiet_step (fail))
          refine wpQuiet_nil ?_
          intro _ hw'
          obtain ⟨pq, hw''⟩ := hw'
          subst hw''
          have HO8 : Hid (OwnV pq.W w.heap.size v4 (out ++ [(⟨xi, xp⟩ : V)])) := own_mono (own_below HO7.out pq.h) (Nat.le_succ _)
          have HB8 : Hid (Below w.heap.size w pq.W) := HB1.out.trans ((HB7.out.trans (pq.h.mono (by have := HB7.out.size; omega))).mono (Nat.le_succ _))
          clear e1 e2 hne HO7 HB7
          generalize pq.W = wq at *
          go_wp2
          go_ret2
          rw [HC6.out]
          exact ⟨_, rfl, HO8, HB8⟩
        · have HC7 : Hid (c6 l ⟨xi, xp⟩ = ((out ++ [(⟨xi, xp⟩ : V)]), true)) := by show _ = _; rw [HC6.out]; simp
          clear HC6
          rename Hid (c6 l _ = _) => HC6

          refine wp_region_below (by kernel_rfl) (by kernel_rfl) ?_
          repeat (go_big_quiet_step (fail))
          refine wpQuiet_nil ?_
          intro _ hw'
          obtain ⟨pq, hw''⟩ := hw'
          subst hw''
          have HO8 : Hid (OwnV pq.W w.heap.size v4 (out ++ [(⟨xi, xp⟩ : V)])) := own_mono (own_below HO7.out pq.h) (Nat.le_succ _)
          have HB8 : Hid (Below w.heap.size w pq.W) := HB1.out.trans ((HB7.out.trans (pq.h.mono (by have := HB7.out.size; omega))).mono (Nat.le_succ _))
          clear e1 e2 hne HO7 HB7
          generalize pq.W = wq at *
          go_wp2
          go_ret2
          rw [HC6.out]
          exact ⟨_, rfl, HO8, HB8⟩
      · have hne := bel_some wr
        have e1 := fun p : Bel wr => p.cell x1
        have e2 := fun p : Bel wr => p.cell x2
        clear x1 x2
        go_wp2_with fail
        cases was
        · have HC7 : Hid (c6 l ⟨xi, xp⟩ = (out, xp != 0)) := by show _ = _; rw [HC6.out]; by_cases h : xp = 0 <;> simp [h]
          clear HC6
          rename Hid (c6 l _ = _) => HC6
          
          refine wp_region_below (by kernel_rfl) (by kernel_rfl) ?_
          repeat (go_big_quiet_step (fail))
          refine wpQuiet_nil ?_
          intro _ hw'
          obtain ⟨pq, hw''⟩ := hw'
          subst hw''
          have HO8 : Hid (OwnV pq.W w.heap.size q out) := own_mono (own_below HOc.out pq.h) (Nat.le_succ _)
          have HB8 : Hid (Below w.heap.size w pq.W) := HB1.out.trans ((HBc.out.trans (pq.h.mono (by have := HBc.out.size; omega))).mono (Nat.le_succ _))
          clear e1 e2 hne HOc HBc
          generalize pq.W = wq at *
          go_wp2
          go_ret2
          rw [HC6.out]
          exact ⟨_, rfl, HO8, HB8⟩
        · have HC7 : Hid (c6 l ⟨xi, xp⟩ = (out, true)) := by show _ = _; rw [HC6.out]; simp
          clear HC6
          rename Hid (c6 l _ = _) => HC6

          refine wp_region_below (by kernel_rfl) (by kernel_rfl) ?_
          repeat (go_big_quiet_step (fail))
          refine wpQuiet_nil ?_
          intro _ hw'
          obtain ⟨pq, hw''⟩ := hw'
          subst hw''
          have HO8 : Hid (OwnV pq.W w.heap.size q out) := own_mono (own_below HOc.out pq.h) (Nat.le_succ _)
          have HB8 : Hid (Below w.heap.size w pq.W) := HB1.out.trans ((HBc.out.trans (pq.h.mono (by have := HBc.out.size; omega))).mono (Nat.le_succ _))
          clear e1 e2 hne HOc HBc
          generalize pq.W = wq at *
          go_wp2
          go_ret2
          rw [HC6.out]
          exact ⟨_, rfl, HO8, HB8⟩
end Go.Proofs.Ytaeokecodejpdaa
