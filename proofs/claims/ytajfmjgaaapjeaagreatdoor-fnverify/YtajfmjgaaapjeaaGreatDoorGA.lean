/- What Val.power, sumOf at it, and the two PowerOf answer; old memory stays. Conditions: rows that a machine can hold. What spec.l6Has, slices.Index and slices.Contains at numbers, valsAmong and the two Enough answer; old memory stays. Conditions: rows that a machine can hold. -/
import Derived.Test.YtajfmjgaaapjeaaGreatDoorOk
namespace Go.Proofs.YtajfmjgaaapjeaaGreatDoor
open Go.RowKit
open Num
set_option linter.unusedVariables false
theorem ret_int {k : IntKind} {a b : Int} (h : a = b) : Ending.returned (.int k a) = .returned (.int k b) := by rw [h]
set_option maxHeartbeats 400000 in
set_option maxRecDepth 100000 in
theorem power_any (x y : Int) (w : World) :
    Calls Tryz.prog 116 #[.agg #[.int .i64 x, .int .i64 y]] w fun e w' => e = .returned (.int .i64 y) ∧ Below w.heap.size w w' := by
  go_enter Tryz.func116, Tryz.ntmps116
  go_wp2
  go_ret
  exact ⟨rfl, (Below.refl _ _).alloc (Nat.le_refl _) _⟩
set_option maxHeartbeats 400000 in
set_option maxRecDepth 100000 in
theorem sumOf_power (a : Option Addr) (l : List V) (cap : Nat) (w : World) (hl : VO w a l) (h7 : l.length ≤ 7) (hp : ∀ v ∈ l, 1 ≤ v.p ∧ v.p ≤ 1000) :
    Calls Tryz.prog 114 #[.slice a l.length cap, .func (.func 116) #[] #[]] w fun e w' => e = .returned (.int .i64 (pw l)) ∧ Below w.heap.size w w' := by
  have HL : Hid (VO w a l) := hl
  have HP : Hid (∀ v ∈ l, 1 ≤ v.p ∧ v.p ≤ 1000) := hp
  clear hl hp
  go_enter Tryz.func114, Tryz.ntmps114
  go_wp2
  go_loopw [10, 5] (fun iv sv wr => ∃ k : Nat, k ≤ l.length ∧ iv = .int .i64 k ∧ (∃ s : Int, sv = .int .i64 s ∧ Hid (s = pw (l.take k)) ∧ 0 ≤ s ∧ s ≤ 7000) ∧ Below w.heap.size w wr) (fun iv _ _ => l.length - (intOf iv).toNat)
  case atStart => exact ⟨0, Nat.zero_le _, rfl, ⟨0, rfl, rfl, by omega, by omega⟩, Below.refl _ _⟩
  case round =>
    obtain ⟨k, hk, rfl, ⟨s, rfl, HS, hs0, hs1⟩, hb⟩ := hrel
    by_cases hlt : k < l.length
    · have hltz : (k : Int) < (l.length : Int) := by omega
      rcases HL.out with h0 | ⟨b, o, rfl, hv0⟩
      · omega
      have hv := hv0.below hb
      obtain ⟨v, hvE⟩ : ∃ v, l[k] = v := ⟨_, rfl⟩
      have c1 := (hv k hlt).1
      have c2 := (hv k hlt).2
      rw [hvE] at c1 c2
      have hpv := HP.out v (by rw [← hvE]; exact List.getElem_mem ..)
      have HN : Hid (s + v.p = pw (l.take (k + 1))) := by show _ = _; rw [pw_snoc l k hlt, hvE, HS.out]
      have hbd : 0 ≤ s + v.p ∧ s + v.p ≤ 7000 := by
        have h1 := pw_bound (l.take (k + 1)) (fun x hx => HP.out x (List.mem_of_mem_take hx))
        have h2 := List.length_take_le' (k + 1) l
        rw [HN.out]; omega
      clear hv hv0 hvE
      go_wp2_with fail
      refine (power_any _ _ _).mono ?_
      rintro e w2 ⟨rfl, hb2⟩
      have hb3 := (hb.alloc hb.size (Obj.cells #[Value.int IntKind.i64 v.i, Value.int IntKind.i64 v.p] 88)).trans (hb2.mono (by simp; have := hb.size; omega))
      clear c1 c2 hb2
      go_wp2
      go_roundw
      case rel => exact ⟨k + 1, by omega, by go_num, ⟨_, rfl, HN, hbd.1, hbd.2⟩, hb3⟩
      case measure => simp [intOf]; omega
    · have hltz : ¬ (k : Int) < (l.length : Int) := by omega
      have HF : Hid (pw l = s) := by show _ = _; rw [HS.out, List.take_of_length_le (by omega)]
      go_wp2
      go_ret
      exact ⟨by rw [HF.out]; rfl, hb⟩
set_option maxHeartbeats 400000 in
set_option maxRecDepth 100000 in
theorem impl_power (a : Option Addr) (l : List V) (cap : Nat) (w : World) (hl : VO w a l) (hlen : l.length ≤ 9223372036854775807) :
    Calls Tryz.prog 117 #[.slice a l.length cap] w fun e w' => e = .returned (.int .i64 (powerOf l)) ∧ Below w.heap.size w w' := by
  have HL : Hid (VO w a l) := hl
  have kO := impl_okV a l cap w hl hlen
  clear hl
  rcases hO : vOk l with _ | _
  · have HE : Hid (powerOf l = 0) := by show _ = _; unfold powerOf; rw [hO]; rfl
    rw [hO] at kO
    clear hO
    go_enter Tryz.func117, Tryz.ntmps117
    go_wp2_with fail
    refine kO.mono ?_
    rintro e w1 ⟨rfl, hb1⟩
    go_wp2
    go_ret
    exact ⟨by rw [HE.out]; rfl, hb1⟩
  · have HE : Hid (powerOf l = pw l) := by show _ = _; unfold powerOf; rw [hO]; rfl
    have HK : Hid (vOk l = true) := hO
    rw [hO] at kO
    clear hO
    go_enter Tryz.func117, Tryz.ntmps117
    go_wp2_with fail
    refine kO.mono ?_
    rintro e w1 ⟨rfl, hb1⟩
    go_wp2_with fail
    refine (sumOf_power a l cap w1 (HL.out.below hb1) (len_ok HK.out).2 (mem_ok HK.out)).mono ?_
    rintro e w2 ⟨rfl, hb2⟩
    have hb3 := hb1.trans (hb2.mono hb1.size)
    go_wp2
    go_ret
    exact ⟨by rw [HE.out]; rfl, hb3⟩
set_option maxHeartbeats 400000 in
set_option maxRecDepth 100000 in
theorem spec_power (a : Option Addr) (l : List V) (cap : Nat) (w : World) (hl : VO w a l) (hlen : l.length ≤ 9223372036854775807) :
    Calls Tryz.prog 52 #[.slice a l.length cap] w fun e w' => e = .returned (.int .i64 (powerOf l)) ∧ Below w.heap.size w w' := by
  have HL : Hid (VO w a l) := hl
  have kO := fun W (h : VO W a l) => spec_okV a l cap W h hlen
  clear hl
  rcases hO : vOk l with _ | _
  · have HE : Hid (powerOf l = 0) := by show _ = _; unfold powerOf; rw [hO]; rfl
    rw [hO] at kO
    clear hO
    by_cases h0 : (0 : Int) < (l.length : Int)
    · go_enter Tryz.func52, Tryz.ntmps52
      go_wp2
      refine wp_loop_rounds 1 ?_
      rw [rounds_succ]
      go_wp2_with fail
      refine (kO w HL.out).mono ?_
      rintro e w1 ⟨rfl, hb1⟩
      go_wp2
      go_ret
      exact ⟨by rw [HE.out]; rfl, hb1⟩
    · go_enter Tryz.func52, Tryz.ntmps52
      go_wp2
      refine wp_loop_rounds 1 ?_
      rw [rounds_succ]
      go_wp2
      go_ret
      exact ⟨by rw [HE.out]; rfl, Below.refl _ _⟩
  · have HE : Hid (powerOf l = pw l) := by show _ = _; unfold powerOf; rw [hO]; rfl
    have HK : Hid (vOk l = true) := hO
    have h7 := len_ok hO
    rw [hO] at kO
    clear hO
    rcases HL.out with h0 | ⟨b, o, rfl, hv0⟩
    · omega
    have HV : Hid (VAt w b o l) := hv0
    clear hv0
    go_enter Tryz.func52, Tryz.ntmps52
    go_wp2
    go_loopw [4, 3] (fun iv sv wr => ∃ k : Nat, k ≤ l.length ∧ iv = .int .i64 k ∧ (∃ s : Int, sv = .int .i64 s ∧ Hid (s = pw (l.take k)) ∧ 0 ≤ s ∧ s ≤ 7000) ∧ Below w.heap.size w wr) (fun iv _ _ => l.length - (intOf iv).toNat)
    case atStart => exact ⟨0, Nat.zero_le _, rfl, ⟨0, rfl, rfl, by omega, by omega⟩, Below.refl _ _⟩
    case round =>
      obtain ⟨k, hk, rfl, ⟨s, rfl, HS, hs0, hs1⟩, hb⟩ := hrel
      by_cases hlt : k < l.length
      · have hltz : (k : Int) < (l.length : Int) := by omega
        go_wp2_with fail
        refine (kO wr (HL.out.below hb)).mono ?_
        rintro e w1 ⟨rfl, hb1⟩
        have hb2 := hb.trans (hb1.mono hb.size)
        have hv := HV.out.below hb2
        obtain ⟨v, hvE⟩ : ∃ v, l[k] = v := ⟨_, rfl⟩
        have c2 := (hv k hlt).2
        rw [hvE] at c2
        have hpv := mem_ok HK.out v (by rw [← hvE]; exact List.getElem_mem ..)
        have HN : Hid (s + v.p = pw (l.take (k + 1))) := by show _ = _; rw [pw_snoc l k hlt, hvE, HS.out]
        have hbd : 0 ≤ s + v.p ∧ s + v.p ≤ 7000 := by
          have h1 := pw_take_bound HK.out (k + 1)
          rw [HN.out]; omega
        clear hv hvE
        go_wp2
        go_roundw
        case rel => exact ⟨k + 1, by omega, by go_num, ⟨_, rfl, HN, hbd.1, hbd.2⟩, hb2⟩
        case measure => simp [intOf]; omega
      · have hltz : ¬ (k : Int) < (l.length : Int) := by omega
        have HF : Hid (powerOf l = s) := by show _ = _; rw [HE.out, HS.out, List.take_of_length_le (by omega)]
        go_wp2
        go_ret
        exact ⟨by rw [HF.out]; rfl, hb⟩
end Go.Proofs.YtajfmjgaaapjeaaGreatDoor
namespace Go.Proofs.YtajfmjgaaapjeaaGreatDoor
open Go.RowKit
open Num
set_option linter.unusedVariables false
theorem contains_take_all {l : List Int} {x : Int} {k : Nat} (h : hasI (l.take k) x = false) (hk : l.length ≤ k) : hasI l x = false := by
  rwa [List.take_of_length_le hk] at h
theorem contains_snoc {l : List Int} {x : Int} {k : Nat} (hk : k < l.length) (h : hasI (l.take k) x = false) (hne : l[k] ≠ x) : hasI (l.take (k + 1)) x = false := by
  unfold hasI at *
  rw [List.take_succ_eq_append_getElem hk]
  simp only [List.contains_eq_mem, List.mem_append, List.mem_singleton, decide_eq_false_iff_not] at h ⊢
  rintro (h' | h')
  · exact h h'
  · exact hne h'.symm
theorem contains_at {l : List Int} {x : Int} {k : Nat} (hk : k < l.length) (h : l[k] = x) : hasI l x = true := by
  unfold hasI; rw [List.contains_eq_mem, decide_eq_true_iff, ← h]; exact List.getElem_mem ..
set_option maxHeartbeats 400000 in
set_option maxRecDepth 100000 in
theorem spec_has (a : Option Addr) (l : List Int) (cap : Nat) (x : Int) (w : World) (hl : Nums w a l) (hlen : l.length ≤ 9223372036854775807) :
    Calls Tryz.prog 51 #[.slice a l.length cap, .int .i64 x] w fun e w' => e = .returned (.bool (hasI l x)) ∧ w' = w := by
  have HL : Hid (Nums w a l) := hl
  clear hl
  go_enter Tryz.func51, Tryz.ntmps51
  go_wp2
  go_loop [5] (fun iv => ∃ k : Nat, k ≤ l.length ∧ iv = .int .i64 k ∧ Hid (hasI (l.take k) x = false)) (fun iv => l.length - (intOf iv).toNat)
  case atStart => exact ⟨0, Nat.zero_le _, rfl, by show _ = _; simp [hasI]⟩
  case round =>
    obtain ⟨k, hk, rfl, HA⟩ := hrel
    by_cases hlt : k < l.length
    · have hltz : (k : Int) < (l.length : Int) := by omega
      rcases HL.out with h0 | ⟨b, o, rfl, hv0⟩
      · omega
      have c1 := hv0 k hlt
      obtain ⟨v, hvE⟩ : ∃ v, l[k] = v := ⟨_, rfl⟩
      rw [hvE] at c1
      by_cases he : v = x
      · have HF : Hid (hasI l x = true) := contains_at hlt (hvE.trans he)
        clear hvE hv0
        go_wp2
        go_ret
        exact ⟨by rw [HF.out]; rfl, rfl⟩
      · have HN : Hid (hasI (l.take (k + 1)) x = false) := contains_snoc hlt HA.out (by rw [hvE]; exact he)
        clear hvE hv0
        go_wp2
        go_round
        case rel => exact ⟨k + 1, by omega, by go_num, HN⟩
        case measure => simp [intOf]; omega
    · have hltz : ¬ (k : Int) < (l.length : Int) := by omega
      have HF : Hid (hasI l x = false) := contains_take_all HA.out (by omega)
      go_wp2
      go_ret
      exact ⟨by rw [HF.out]; rfl, rfl⟩
set_option maxHeartbeats 400000 in
set_option maxRecDepth 100000 in
theorem idx_any (a : Option Addr) (l : List Int) (cap : Nat) (x : Int) (w : World) (hl : Nums w a l) (hlen : l.length ≤ 9223372036854775807) :
    Calls Tryz.prog 135 #[.slice a l.length cap, .int .i64 x] w fun e w' => ∃ r : Int, e = .returned (.int .i64 r) ∧ Hid (decide (0 ≤ r) = hasI l x) ∧ w' = w := by
  have HL : Hid (Nums w a l) := hl
  clear hl
  go_enter Tryz.func135, Tryz.ntmps135
  go_wp2
  go_loop [8] (fun iv => ∃ k : Nat, k ≤ l.length ∧ iv = .int .i64 k ∧ Hid (hasI (l.take k) x = false)) (fun iv => l.length - (intOf iv).toNat)
  case atStart => exact ⟨0, Nat.zero_le _, rfl, by show _ = _; simp [hasI]⟩
  case round =>
    obtain ⟨k, hk, rfl, HA⟩ := hrel
    by_cases hlt : k < l.length
    · have hltz : (k : Int) < (l.length : Int) := by omega
      rcases HL.out with h0 | ⟨b, o, rfl, hv0⟩
      · omega
      have c1 := hv0 k hlt
      obtain ⟨v, hvE⟩ : ∃ v, l[k] = v := ⟨_, rfl⟩
      rw [hvE] at c1
      by_cases he : x = v
      · have HF : Hid (hasI l x = true) := contains_at hlt (hvE.trans he.symm)
        clear hvE hv0
        subst he
        go_wp2
        go_ret
        exact ⟨k, rfl, by show _ = _; rw [HF.out]; simp, rfl⟩
      · have HN : Hid (hasI (l.take (k + 1)) x = false) := contains_snoc hlt HA.out (by rw [hvE]; exact fun e => he e.symm)
        clear hvE hv0
        go_wp2
        go_round
        case rel => exact ⟨k + 1, by omega, by go_num, HN⟩
        case measure => simp [intOf]; omega
    · have hltz : ¬ (k : Int) < (l.length : Int) := by omega
      have HF : Hid (hasI l x = false) := contains_take_all HA.out (by omega)
      go_wp2
      go_ret
      exact ⟨-1, rfl, by show _ = _; rw [HF.out]; rfl, rfl⟩
set_option maxHeartbeats 400000 in
set_option maxRecDepth 100000 in
theorem cont_any (a : Option Addr) (l : List Int) (cap : Nat) (x : Int) (w : World) (hl : Nums w a l) (hlen : l.length ≤ 9223372036854775807) :
    Calls Tryz.prog 129 #[.slice a l.length cap, .int .i64 x] w fun e w' => e = .returned (.bool (hasI l x)) ∧ w' = w := by
  have kI := idx_any a l cap x w hl hlen
  generalize hasI l x = r at *
  clear hl
  go_enter Tryz.func129, Tryz.ntmps129
  go_wp2_with fail
  refine kI.mono ?_
  rintro e w1 ⟨i, rfl, hr, rfl⟩
  go_wp2
  go_ret
  exact ⟨by rw [← hr.out]; rfl, rfl⟩
/-- Validators laid in a row, as values. -/
def vals (l : List V) : List Value := l.flatMap fun v => [.int .i64 v.i, .int .i64 v.p]
theorem vals_length : ∀ l : List V, (vals l).length = l.length * 2
  | [] => rfl
  | v :: l => by
    have := vals_length l
    unfold vals at this ⊢
    rw [List.flatMap_cons, List.length_append, this, List.length_cons]; simp; omega
theorem vals_snoc (l : List V) (v : V) : vals (l ++ [v]) = vals l ++ [.int .i64 v.i, .int .i64 v.p] := by simp [vals]
theorem vals_append (l m : List V) : vals (l ++ m) = vals l ++ vals m := by simp [vals]
theorem vals_one : ∀ (l : List V), ∀ u ∈ vals l, u.oneCell' = true := by
  intro l u hu
  simp only [vals, List.mem_flatMap] at hu
  obtain ⟨v, _, hv⟩ := hu
  simp at hv
  rcases hv with rfl | rfl <;> rfl
theorem vals_at : ∀ (l : List V) (j : Nat) (hj : j < l.length), (vals l)[j * 2]? = some (.int .i64 l[j].i) ∧ (vals l)[j * 2 + 1]? = some (.int .i64 l[j].p)
  | v :: l, 0, _ => by simp [vals]
  | v :: l, j + 1, h => by
    have ih := vals_at l j (by simpa using h)
    have e : vals (v :: l) = .int .i64 v.i :: .int .i64 v.p :: vals l := rfl
    rw [e, show (j + 1) * 2 = (j * 2) + 1 + 1 from by omega]
    simpa using ih
/-- A row of validators that the call owns. -/
abbrev OwnV (w : World) (B : Nat) (v : Value) (l : List V) : Prop := w.ownsRow B 88 2 v l.length (vals l)
theorem OwnV.o {w : World} {B : Nat} {v : Value} {l : List V} (h : OwnV w B v l) : ∃ a cap, v = .slice a l.length cap ∧ VO w a l ∧ l.length ≤ cap ∧ cap ≤ 9223372036854775807 := by
  have h' := h
  rcases h.2 with ⟨rfl, hn⟩ | ⟨g, cap, cur, rfl, _, hg, hnc, hcm, _⟩
  · exact ⟨none, 0, by rw [hn], .inl hn, by omega, by omega⟩
  · refine ⟨some ⟨g, 0, none⟩, cap, rfl, .inr ⟨g, 0, rfl, fun j hj => ?_⟩, hnc, hcm⟩
    obtain ⟨e1, e2⟩ := vals_at l j hj
    rw [Nat.zero_add, h'.cellAt (j * 2) (by omega), h'.cellAt (j * 2 + 1) (by omega), e1, e2]
    exact ⟨rfl, rfl⟩
theorem OwnV.nil (w : World) (B : Nat) : OwnV w B (.slice none 0 0) [] := ⟨rfl, .inl ⟨rfl, rfl⟩⟩
theorem own_snocV {w : World} {B : Nat} {v : Value} {l : List V} {x : V} (h : w.ownsRow B 88 2 v (l.length + 1) (vals l ++ vals [x])) : OwnV w B v (l ++ [x]) := by
  unfold OwnV
  rw [vals_append, List.length_append]; exact h
/-- One validator just laid. -/
theorem one_val (w : World) (v : V) (g : Nat) (hg : g = w.heap.size) : ∀ j u, (vals [v])[j]? = some u → (w.alloc (.cells #[.int .i64 v.i, .int .i64 v.p] 88)).cell? ((⟨g, 0, none⟩ : Addr).add j) = some u := by
  intro j u hj
  subst hg
  rw [add_at, cell_of_row _ _ j #[.int .i64 v.i, .int .i64 v.p] 88 (0, 0) (heap_alloc_new _ _)]
  rw [← hj]; simp [vals]
end Go.Proofs.YtajfmjgaaapjeaaGreatDoor
