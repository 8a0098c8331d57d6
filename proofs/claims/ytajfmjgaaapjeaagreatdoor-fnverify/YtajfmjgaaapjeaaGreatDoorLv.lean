/- What the laws' helpers szValS, toVal, toValS, eqVal and eqValS answer; old memory stays. Conditions: rows that a machine can hold. -/
import Derived.Test.YtajfmjgaaapjeaaGreatDoorVl
import Derived.Test.YtajfmjgaaapjeaaGreatDoorG5
import Derived.Test.YtajfmjgaaapjeaaGreatDoorGr
namespace Go.Proofs.YtajfmjgaaapjeaaGreatDoor
open Go.RowKit
open Num
set_option linter.unusedVariables false
set_option maxHeartbeats 400000 in
set_option maxRecDepth 100000 in
theorem sz_any (a : Option Addr) (n cap : Nat) (left : Int) (w : World) (hn : n ≤ 9223372036854775807) (h0 : 0 ≤ left) (h1 : left ≤ 1048576) :
    Calls Tryz.prog 16 #[.slice a n cap, .int .i64 left] w fun e w' => e = .returned (.int .i64 (if left < (n : Int) then -1 else left - (n : Int))) ∧ w' = w := by
  by_cases h : left < (n : Int)
  · rw [if_pos h]
    have h' : left - (n : Int) < 0 := by omega
    go_enter Tryz.func16, Tryz.ntmps16
    go_wp2
    go_ret
    exact ⟨rfl, rfl⟩
  · rw [if_neg h]
    have h' : ¬ left - (n : Int) < 0 := by omega
    go_enter Tryz.func16, Tryz.ntmps16
    go_wp2
    go_ret
    exact ⟨rfl, rfl⟩
set_option maxHeartbeats 400000 in
set_option maxRecDepth 100000 in
theorem toVal_any (x y : Int) (w : World) :
    Calls Tryz.prog 56 #[.agg #[.int .i64 x, .int .i64 y]] w fun e w' => e = .returned (.agg #[.int .i64 x, .int .i64 y]) ∧ Below w.heap.size w w' := by
  go_enter Tryz.func56, Tryz.ntmps56
  go_wp2
  refine bodyPost_ret (v := .agg #[.int .i64 x, .int .i64 y]) (by simp [results, Tryz.results56, go_sem]) rfl ⟨rfl, ?_⟩
  exact (((Below.refl _ _).alloc (Nat.le_refl _) _).alloc (by simp) _).alloc (by simp; omega) _
set_option maxHeartbeats 400000 in
set_option maxRecDepth 100000 in
theorem eqVal_any (x y x' y' : Int) (w : World) :
    Calls Tryz.prog 59 #[.agg #[.int .i64 x, .int .i64 y], .agg #[.int .i64 x', .int .i64 y']] w fun e w' => e = .returned (.bool (decide (x = x') && decide (y = y'))) ∧ Below w.heap.size w w' := by
  by_cases hx : x = x'
  · by_cases hy : y = y'
    · subst hx hy
      go_enter Tryz.func59, Tryz.ntmps59
      go_wp2
      go_ret
      exact ⟨by simp, below_two _ _ _⟩
    · subst hx
      go_enter Tryz.func59, Tryz.ntmps59
      go_wp2
      go_ret
      exact ⟨by simp [hy], below_two _ _ _⟩
  · go_enter Tryz.func59, Tryz.ntmps59
    go_wp2
    go_ret
    exact ⟨by simp [hx], below_two _ _ _⟩
set_option maxHeartbeats 400000 in
set_option maxRecDepth 100000 in
theorem toValS_any (a : Option Addr) (l : List V) (cap : Nat) (w : World) (hl : VO w a l) (hlen : l.length ≤ 1048576) :
    Calls Tryz.prog 21 #[.slice a l.length cap] w fun e w' => e = .returned (.slice (some ⟨w.heap.size, 0, none⟩) l.length l.length) ∧ VAt w' w.heap.size 0 l ∧ Room w' w.heap.size 0 (l.length * 2) ∧ Below w.heap.size w w' := by
  obtain ⟨i0, hi, hz0, hz1, hz2⟩ := info33f
  have HL : Hid (VO w a l) := hl
  clear hl
  go_enter Tryz.func21, Tryz.ntmps21
  go_wp2_with (at_make; refine wpList_make_full _ rfl _ _ 28 rfl w.heap.size 88 i0 (.agg #[.int .i64 0, .int .i64 0]) 2 Tryz.underlying28 hi hz0 hz1 _ _ _ _ l.length rfl rfl rfl rfl (by rw [hz2]; omega) (by unfold maxLen; omega) (Nat.le_refl _) ?_; intro w1 hown hgr)
  have hroom : Room w1 w.heap.size 0 (l.length * 2) := fun j hj => by
    rw [Nat.zero_add]
    refine ⟨?_, hown.frozenAt j⟩
    rw [hown.cellAt j (by omega)]
    simp [madeCells]
    exact hj
  have hb1 := below_of_grown hgr
  have hs1 : w.heap.size < w1.heap.size := by
    rcases hown.2 with ⟨h', _⟩ | ⟨g', cap', cur, h', hb, hg, _⟩
    · simp at h'
    · simp only [Value.slice.injEq, Option.some.injEq, Addr.mk.injEq, and_true, true_and] at h'
      rw [← h'.1] at hg
      exact (Array.getElem?_eq_some_iff.1 hg).1
  clear hown hgr
  go_loopw [4] (fun iv wr => ∃ k : Nat, k ≤ l.length ∧ iv = .int .i64 k ∧ Hid (VAt wr w.heap.size 0 (l.take k)) ∧ Hid (Room wr w.heap.size 0 (l.length * 2)) ∧ Below w.heap.size w wr ∧ w.heap.size < wr.heap.size) (fun iv _ => l.length - (intOf iv).toNat)
  case atStart => exact ⟨0, Nat.zero_le _, rfl, fun j hj => by simp at hj, hroom, hb1, hs1⟩
  case round =>
    clear hroom hb1 hs1 w1
    obtain ⟨k, hk, rfl, HA, HR, hb, hsz⟩ := hrel
    by_cases hlt : k < l.length
    · have hltz : (k : Int) < (l.length : Int) := by omega
      rcases HL.out with h0 | ⟨b, o, rfl, hv0⟩
      · omega
      have hv := hv0.below hb
      obtain ⟨v, hvE⟩ : ∃ v, l[k] = v := ⟨_, rfl⟩
      have c1 := (hv k hlt).1
      have c2 := (hv k hlt).2
      rw [hvE] at c1 c2
      clear hv hv0
      go_wp2_with fail
      refine (toVal_any _ _ _).mono ?_
      rintro e w2 ⟨rfl, hb2⟩
      have hr2 := HR.out.below hb2
      have ha2 := HA.out.below hb2
      have hsz2 : w.heap.size < w2.heap.size := by have := hb2.size; omega
      have hb3 := hb.trans (hb2.mono hb.size)
      obtain ⟨s1, f1⟩ := hr2 (k * 2) (by omega)
      obtain ⟨s2, f2⟩ := hr2 (k * 2 + 1) (by omega)
      obtain ⟨u1, e1⟩ := Option.isSome_iff_exists.1 s1
      obtain ⟨u2, e2⟩ := Option.isSome_iff_exists.1 s2
      rw [Nat.zero_add] at e1 e2 f1 f2
      clear s1 s2 c1 c2
      go_wp2
      go_roundw
      case rel =>
        refine ⟨k + 1, by omega, by go_num, ?_, (hr2.set _ _ _).set _ _ _, (hb3.setCell (p := ⟨w.heap.size, k * 2, none⟩) (Nat.le_refl _) _).setCell (p := ⟨w.heap.size, k * 2 + 1, none⟩) (Nat.le_refl _) _, by simpa [World.setCell] using hsz2⟩
        show VAt _ _ _ _
        have hn := ha2.snoc (v := v) (by rw [List.length_take, Nat.min_eq_left (by omega), Nat.zero_add, e1]; rfl) (by rw [List.length_take, Nat.min_eq_left (by omega), Nat.zero_add, e2]; rfl)
        rw [List.length_take, Nat.min_eq_left (by omega), Nat.zero_add, ← hvE, ← List.take_succ_eq_append_getElem hlt, hvE] at hn
        exact hn
      case measure => simp [intOf]; omega
    · have hltz : ¬ (k : Int) < (l.length : Int) := by omega
      have hkl : k = l.length := by omega
      have HA' : Hid (VAt wr w.heap.size 0 l) := by have := HA.out; rw [hkl, List.take_length] at this; exact this
      clear hkl
      go_wp2
      go_ret
      exact ⟨rfl, HA'.out, HR.out, hb⟩
set_option maxHeartbeats 400000 in
set_option maxRecDepth 100000 in
theorem eqValS_any (a a' : Option Addr) (l l' : List V) (cap cap' : Nat) (w : World) (hl : VO w a l) (hl' : VO w a' l') (h1 : l.length ≤ 1099511627776) (h2 : l'.length ≤ 1099511627776) :
    Calls Tryz.prog 24 #[.slice a l.length cap, .slice a' l'.length cap'] w fun e w' => e = .returned (.bool (decide (l = l'))) ∧ Below w.heap.size w w' := by
  by_cases hne : l.length = l'.length
  · have HL : Hid (VO w a l) := hl
    have HL' : Hid (VO w a' l') := hl'
    have HN : Hid (l.length = l'.length) := hne
    have hnz : (l.length : Int) = (l'.length : Int) := by omega
    clear hl hl' hne
    go_enter Tryz.func24, Tryz.ntmps24
    go_wp2
    go_loopw [5] (fun iv wr => ∃ k : Nat, k ≤ l.length ∧ iv = .int .i64 k ∧ Hid (l.take k = l'.take k) ∧ Below w.heap.size w wr) (fun iv _ => l.length - (intOf iv).toNat)
    case atStart => exact ⟨0, Nat.zero_le _, rfl, rfl, Below.refl _ _⟩
    case round =>
      obtain ⟨k, hk, rfl, HA, hb⟩ := hrel
      by_cases hlt : k < l.length
      · have hltz : (k : Int) < (l.length : Int) := by omega
        have hlt' : k < l'.length := by have := HN.out; omega
        have hltz' : (k : Int) < (l'.length : Int) := by omega
        rcases HL.out with h0 | ⟨b, o, rfl, hv0⟩
        · omega
        rcases HL'.out with h0 | ⟨b', o', rfl, hv0'⟩
        · omega
        have hn := bel_some wr
        obtain ⟨v, hvE⟩ : ∃ v, l[k] = v := ⟨_, rfl⟩
        obtain ⟨v', hvE'⟩ : ∃ v, l'[k] = v := ⟨_, rfl⟩
        have c1 := fun p : Bel wr => p.cell ((hv0.below hb) k hlt).1
        have c2 := fun p : Bel wr => p.cell ((hv0.below hb) k hlt).2
        have c3 := fun p : Bel wr => p.cell ((hv0'.below hb) k hlt').1
        have c4 := fun p : Bel wr => p.cell ((hv0'.below hb) k hlt').2
        rw [hvE] at c1 c2
        rw [hvE'] at c3 c4
        clear hv0 hv0'
        go_wp2_with fail
        refine wp_region_below (by kernel_rfl) (by kernel_rfl) ?_
        repeat (go_big_quiet_step ((go_at_call 59; exact bel_of (eqVal_any _ _ _ _ _))))
        refine wpQuiet_nil ?_
        intro _ hw'
        obtain ⟨pq, hw''⟩ := hw'
        subst hw''
        have hb3 := hb.trans (pq.h.mono hb.size)
        by_cases hv : v = v'
        · have HN' : Hid (l.take (k + 1) = l'.take (k + 1)) := by
            show _ = _
            rw [List.take_succ_eq_append_getElem hlt, List.take_succ_eq_append_getElem hlt', HA.out, hvE, hvE', hv]
          have hd : (decide (v.i = v'.i) && decide (v.p = v'.p)) = true := by rw [hv]; simp
          have hd' : (!decide (v.i = v'.i) || !decide (v.p = v'.p)) = false := by rw [hv]; simp
          clear hv hvE hvE' c1 c2 c3 c4
          generalize (!decide (v.i = v'.i) || !decide (v.p = v'.p)) = bb at *
          generalize (decide (v.i = v'.i) && decide (v.p = v'.p)) = cc at *
          subst hd hd'
          go_wp2
          go_roundw
          case rel => exact ⟨k + 1, by omega, by go_num, HN', hb3⟩
          case measure => simp [intOf]; omega
        · have HF : Hid (decide (l = l') = false) := by
            show _ = _
            refine decide_eq_false fun e => hv ?_
            subst e
            rw [← hvE, ← hvE']
          have hd : (decide (v.i = v'.i) && decide (v.p = v'.p)) = false := by
            rw [← Bool.not_eq_true]
            intro h
            simp at h
            exact hv (by cases v; cases v'; simp_all)
          have hd' : (!decide (v.i = v'.i) || !decide (v.p = v'.p)) = true := by
            rw [← Bool.not_and, hd]; rfl
          clear hv hvE hvE' c1 c2 c3 c4
          generalize (!decide (v.i = v'.i) || !decide (v.p = v'.p)) = bb at *
          generalize (decide (v.i = v'.i) && decide (v.p = v'.p)) = cc at *
          subst hd hd'
          go_wp2
          go_ret
          exact ⟨by rw [HF.out]; rfl, hb3⟩
      · have hltz : ¬ (k : Int) < (l.length : Int) := by omega
        have HF : Hid (decide (l = l') = true) := by
          show _ = _
          refine decide_eq_true ?_
          have h := HA.out
          have hn := HN.out
          rwa [List.take_of_length_le (by omega), List.take_of_length_le (by omega)] at h
        go_wp2
        go_ret
        exact ⟨by rw [HF.out]; rfl, hb⟩
  · have hnz : ¬ (l.length : Int) = (l'.length : Int) := by omega
    have HF : Hid (decide (l = l') = false) := decide_eq_false fun e => hne (by rw [e])
    go_enter Tryz.func24, Tryz.ntmps24
    go_wp2
    go_ret
    exact ⟨by rw [HF.out]; rfl, Below.refl _ _⟩
end Go.Proofs.YtajfmjgaaapjeaaGreatDoor
