/- What l9Vote, isShownSig and isShownCommit answer; old memory stays. Conditions: rows that a machine can hold. -/
import Derived.Test.YtbpmjejmeaifbaaDoorMC
import Derived.Test.YtbpmjejmeaifbaaDoorVo
namespace Go.Proofs.YtbpmjejmeaifbaaDoor
open Go.RowKit
open Num
set_option linter.unusedVariables false
set_option maxHeartbeats 400000 in
theorem spec_l9v (x : Ct) (a : Option Addr) (cap : Nat) (v : Int) (w : World) :
    Calls Tryd.prog 45 #[cV x a cap, .int .i64 v] w fun e w' => e = .returned (tV ⟨x.h, x.r, 2, x.i, v⟩) ∧ Below w.heap.size w w' := by
  obtain ⟨h, r, i, l⟩ := x
  unfold cV tV
  simp only
  go_enter Tryd.func45, Tryd.ntmps45
  go_wp2
  refine bodyPost_ret (v := .agg #[.int .i64 h, .int .i64 r, .int .i64 2, .string i, .int .i64 v]) (by simp [results, Tryd.results45, go_sem]) rfl ⟨rfl, ?_⟩
  first | exact below_two _ _ _ | exact (((((below_two _ _ _).setCell (by simp) _).setCell (by simp) _).setCell (by simp) _).setCell (by simp) _).setCell (by simp) _
set_option maxHeartbeats 400000 in
theorem impl_isSg (x : Sg) (w : World) (hx : x.s.size ≤ 9223372036854775807) :
    Calls Tryd.prog 73 #[sgV x] w fun e w' => e = .returned (.bool (sgB x)) ∧ Below w.heap.size w w' := by
  have HE : Hid (sgB x = (inIs x.v 1 99 && decide (x.s.size ≤ 8))) := rfl
  have kV := fun W => impl_isV x.v W
  generalize sgB x = R at *
  generalize inIs x.v 1 99 = b at *
  obtain ⟨v, s⟩ := x
  unfold sgV
  simp only at HE kV hx ⊢
  cases b
  · go_enter Tryd.func73, Tryd.ntmps73
    go_wp2_with fail
    refine (kV _).mono ?_
    rintro e w1 ⟨rfl, rfl⟩
    go_wp2
    go_ret
    exact ⟨by rw [HE.out]; rfl, below_one _ _⟩
  · by_cases h8 : (s.size : Int) ≤ 8
    · have HF : Hid (decide (s.size ≤ 8) = true) := by show _ = _; simp; omega
      go_enter Tryd.func73, Tryd.ntmps73
      go_wp2_with fail
      refine (kV _).mono ?_
      rintro e w1 ⟨rfl, rfl⟩
      go_wp2
      go_ret
      exact ⟨by rw [HE.out, HF.out]; first | rfl | (simp; omega), below_one _ _⟩
    · have HF : Hid (decide (s.size ≤ 8) = false) := by show _ = _; simp; omega
      go_enter Tryd.func73, Tryd.ntmps73
      go_wp2_with fail
      refine (kV _).mono ?_
      rintro e w1 ⟨rfl, rfl⟩
      go_wp2
      go_ret
      exact ⟨by rw [HE.out, HF.out]; first | rfl | (simp; omega), below_one _ _⟩
/-- Rows that a machine can hold. -/
def SzOk (x : Ct) : Prop := x.i.size ≤ 9223372036854775807 ∧ x.l.length ≤ 9223372036854775807 ∧ ∀ y ∈ x.l, y.s.size ≤ 9223372036854775807
theorem cOk_h {x : Ct} (h : hdB x.h x.r x.i = false) : cOk x = false := cOk_no fun e => by rw [h] at e; exact absurd e.1 (by decide)
theorem cOk_m {x : Ct} (h : ¬ x.l.length ≤ 12) : cOk x = false := cOk_no fun e => h e.2.1
theorem cOk_g {x : Ct} {j : Nat} (hj : j < x.l.length) (h : sgB x.l[j] = false) : cOk x = false := cOk_no fun e => by
  have := e.2.2 _ (List.getElem_mem hj)
  rw [h] at this; cases this
theorem cOk_y {x : Ct} (h : hdB x.h x.r x.i = true) (h2 : x.l.length ≤ 12) (h3 : ∀ j (hj : j < x.l.length), sgB x.l[j] = true) : cOk x = true :=
  (cOk_iff x).2 ⟨h, h2, fun y hy => by obtain ⟨j, hj, rfl⟩ := List.getElem_of_mem hy; exact h3 j hj⟩
set_option maxHeartbeats 1600000 in
theorem impl_shown (x : Ct) (a : Option Addr) (cap : Nat) (w : World) (hl : SO w a x.l) (hs : SzOk x) :
    Calls Tryd.prog 42 #[cV x a cap] w fun e w' => e = .returned (.bool (cOk x)) ∧ Below w.heap.size w w' := by
  have HL : Hid (SO w a x.l) := hl
  have HZ : Hid (SzOk x) := hs
  have hlen := hs.2.1
  clear hl hs
  have HX : Hid (Blk (w.alloc (.cells (ccs x a cap).toArray 33)) w.heap.size (ccs x a cap) 33) := blk_new w _ _
  have HB : Hid (Below w.heap.size w (w.alloc (.cells (ccs x a cap).toArray 33))) := below_one _ _
  have kH := fun W => impl_isH x.h W
  have kR := fun W => impl_isR x.r W
  have kI := fun W => impl_isI x.i W
  have HH : Hid (hdB x.h x.r x.i = (inIs x.h 1 1000000 && (inIs x.r 0 1000 && idB x.i))) := rfl
  have HO : Hid (hdB x.h x.r x.i = false → cOk x = false) := cOk_h
  have HM : Hid (¬ x.l.length ≤ 12 → cOk x = false) := cOk_m
  have HG : Hid (∀ j (hj : j < x.l.length), sgB x.l[j] = false → cOk x = false) := fun j hj => cOk_g hj
  have HY : Hid (hdB x.h x.r x.i = true → x.l.length ≤ 12 → (∀ j (hj : j < x.l.length), sgB x.l[j] = true) → cOk x = true) := cOk_y
  have HZ3 : Hid (∀ y ∈ x.l, y.s.size ≤ 9223372036854775807) := HZ.out.2.2
  clear HZ
  generalize cOk x = R at *
  generalize hdB x.h x.r x.i = D at *
  generalize inIs x.h 1 1000000 = b0 at *
  generalize inIs x.r 0 1000 = b1 at *
  generalize idB x.i = b2 at *
  obtain ⟨h, r, i, l⟩ := x
  unfold cV
  unfold ccs at *
  simp only at HL hlen HX HB kH kR kI HM HG HY HZ3 ⊢
  have x0 := HX.out.cell 0 rfl
  have x1 := HX.out.cell 1 rfl
  have x2 := HX.out.cell 2 rfl
  have x3 := HX.out.cell 3 rfl
  cases b0
  · go_enter Tryd.func42, Tryd.ntmps42
    go_wp2_with fail
    refine (kH _).mono ?_
    rintro e w1 ⟨rfl, rfl⟩
    go_wp2
    go_ret
    exact ⟨by rw [HO.out (by rw [HH.out]; rfl)]; rfl, HB.out⟩
  cases b1
  · go_enter Tryd.func42, Tryd.ntmps42
    go_wp2_with fail
    refine (kH _).mono ?_
    rintro e w1 ⟨rfl, rfl⟩
    go_wp2_with fail
    refine (kR _).mono ?_
    rintro e w1 ⟨rfl, rfl⟩
    go_wp2
    go_ret
    exact ⟨by rw [HO.out (by rw [HH.out]; rfl)]; rfl, HB.out⟩
  cases b2
  · go_enter Tryd.func42, Tryd.ntmps42
    go_wp2_with fail
    refine (kH _).mono ?_
    rintro e w1 ⟨rfl, rfl⟩
    go_wp2_with fail
    refine (kR _).mono ?_
    rintro e w1 ⟨rfl, rfl⟩
    go_wp2_with fail
    refine (kI _).mono ?_
    rintro e w1 ⟨rfl, rfl⟩
    go_wp2
    go_ret
    exact ⟨by rw [HO.out (by rw [HH.out]; rfl)]; rfl, HB.out⟩
  by_cases hm : (12 : Int) < (l.length : Int)
  · go_enter Tryd.func42, Tryd.ntmps42
    go_wp2_with fail
    refine (kH _).mono ?_
    rintro e w1 ⟨rfl, rfl⟩
    go_wp2_with fail
    refine (kR _).mono ?_
    rintro e w1 ⟨rfl, rfl⟩
    go_wp2_with fail
    refine (kI _).mono ?_
    rintro e w1 ⟨rfl, rfl⟩
    go_wp2
    go_ret
    exact ⟨by rw [HM.out (by omega)]; rfl, HB.out⟩
  have hD : D = true := by rw [HH.out]; rfl
  have HY2 : Hid ((∀ j (hj : j < l.length), sgB l[j] = true) → R = true) := HY.out hD (by omega)
  clear hD HY HH HO HM
  go_enter Tryd.func42, Tryd.ntmps42
  go_wp2_with fail
  refine (kH _).mono ?_
  rintro e w1 ⟨rfl, rfl⟩
  go_wp2_with fail
  refine (kR _).mono ?_
  rintro e w1 ⟨rfl, rfl⟩
  go_wp2_with fail
  refine (kI _).mono ?_
  rintro e w1 ⟨rfl, rfl⟩
  go_wp2
  go_loopw [30] (fun iv wr => ∃ k : Nat, k ≤ l.length ∧ iv = .int .i64 k ∧ Hid (∀ j (hj : j < l.length), j < k → sgB l[j] = true) ∧ Below w.heap.size w wr) (fun iv _ => l.length - (intOf iv).toNat)
  case atStart => exact ⟨0, Nat.zero_le _, rfl, fun j hj h => absurd h (by omega), HB.out⟩
  case round =>
    obtain ⟨k, hk, rfl, HA, hb⟩ := hrel
    clear x0 x1 x2 x3 kH kR kI HX HB
    by_cases hlt : k < l.length
    · have hltz : (k : Int) < (l.length : Int) := by omega
      rcases HL.out with h0 | ⟨b, o, rfl, hS⟩
      · omega
      have hS' := hS.below hb (hS.lt (by omega))
      obtain ⟨c1, c2⟩ := hS' k hlt
      clear hS hS'
      have hz := HZ3.out _ (List.getElem_mem hlt)
      have HGk : Hid (sgB l[k] = false → R = false) := HG.out k hlt
      obtain ⟨y, hy⟩ : ∃ y, l[k] = y := ⟨_, rfl⟩
      rw [hy] at c1 c2 hz HGk
      have kS := fun W => impl_isSg y W hz
      have HN : Hid (sgB y = true → ∀ j (hj : j < l.length), j < k + 1 → sgB l[j] = true) := fun e j hj h => by
        by_cases e1 : j = k
        · subst e1; rw [hy]; exact e
        · exact HA.out j hj (by omega)
      unfold sgV at kS
      clear hy hz
      generalize sgB y = t at *
      cases t
      · go_wp2_with fail
        refine (kS _).mono ?_
        rintro e w3 ⟨rfl, b3⟩
        go_wp2
        go_ret
        exact ⟨by rw [HGk.out (by trivial)]; rfl, (hb.alloc hb.size _).trans (b3.mono (hb.alloc hb.size _).size)⟩
      · go_wp2_with fail
        refine (kS _).mono ?_
        rintro e w3 ⟨rfl, b3⟩
        have hb3 := (hb.alloc hb.size (.cells (sgc y).toArray 77)).trans (b3.mono (hb.alloc hb.size _).size)
        go_wp2
        go_roundw
        case rel => exact ⟨k + 1, by omega, by go_num, HN.out (by trivial), hb3⟩
        case measure => simp [intOf]; omega
    · have hltz : ¬ (k : Int) < (l.length : Int) := by omega
      have HF : Hid (R = true) := HY2.out fun j hj => HA.out j hj (by omega)
      go_wp2
      go_ret
      exact ⟨by rw [HF.out]; rfl, hb⟩
end Go.Proofs.YtbpmjejmeaifbaaDoor
