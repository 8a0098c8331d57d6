/- What valsAmong and the two Enough answer; old memory stays. Conditions: rows that a machine can hold. -/
import Derived.Test.YtajfmjgaaapjeaaGreatDoorGA
import Derived.Test.YtajfmjgaaapjeaaGreatDoorLv
namespace Go.Proofs.YtajfmjgaaapjeaaGreatDoor
open Go.RowKit
open Num
set_option linter.unusedVariables false
set_option maxHeartbeats 400000 in
set_option maxRecDepth 100000 in
theorem impl_among (a : Option Addr) (l : List V) (cap : Nat) (a' : Option Addr) (ids : List Int) (cap' : Nat) (w : World) (hl : VO w a l) (hi : Nums w a' ids) (hok : vOk l = true) (hlen : ids.length ≤ 9223372036854775807) :
    Calls Tryz.prog 115 #[.slice a l.length cap, .slice a' ids.length cap'] w fun e w' => ∃ v, e = .returned v ∧ OwnV w' w.heap.size v (among l ids) ∧ Below w.heap.size w w' := by
  obtain ⟨i0, hinf, hz0, hz1, hz2⟩ := info33f
  have HL : Hid (VO w a l) := hl
  have HI : Hid (Nums w a' ids) := hi
  have HK : Hid (vOk l = true) := hok
  have h7 := (len_ok hok).2
  clear hl hi hok
  go_enter Tryz.func115, Tryz.ntmps115
  go_wp2
  go_loopw [10, 5] (fun iv ov wr => ∃ (k : Nat) (q : Value), k ≤ l.length ∧ iv = .int .i64 k ∧ q = ov ∧ Hid (OwnV wr w.heap.size q (among (l.take k) ids)) ∧ Below w.heap.size w wr) (fun iv _ _ => l.length - (intOf iv).toNat)
  case atStart => exact ⟨0, _, Nat.zero_le _, rfl, rfl, OwnV.nil _ _, Below.refl _ _⟩
  case round =>
    obtain ⟨k, q, hk, rfl, rfl, HO, hb⟩ := hrel
    by_cases hlt : k < l.length
    · have hltz : (k : Int) < (l.length : Int) := by omega
      rcases HL.out with h0 | ⟨b, o, rfl, hv0⟩
      · omega
      have hv := hv0.below hb
      obtain ⟨v, hvE⟩ : ∃ v, l[k] = v := ⟨_, rfl⟩
      have c1 := (hv k hlt).1
      have c2 := (hv k hlt).2
      rw [hvE] at c1 c2
      have HS := among_snoc l ids k hlt
      rw [hvE] at HS
      have hb2 := hb.alloc hb.size (Obj.cells #[Value.int IntKind.i64 v.i, Value.int IntKind.i64 v.p] 88)
      have kC := cont_any a' ids cap' v.i (wr.alloc (Obj.cells #[Value.int IntKind.i64 v.i, Value.int IntKind.i64 v.p] 88)) (HI.out.below hb2) hlen
      have h7' := (among_bound HK.out ids k).2.2
      rcases hH : hasI ids v.i with _ | _
      · rw [hH] at HS kC
        have HN : Hid (among (l.take (k + 1)) ids = among (l.take k) ids) := by show _ = _; rw [HS]; simp
        clear HS hv hv0 hvE hH
        have HO2 : Hid (OwnV (wr.alloc (Obj.cells #[Value.int IntKind.i64 v.i, Value.int IntKind.i64 v.p] 88)) w.heap.size q (among (l.take k) ids)) := World.ownsRow.alloc HO.out _
        go_wp2_with fail
        refine kC.mono ?_
        rintro e w2 ⟨rfl, rfl⟩
        go_wp2
        go_roundw
        case rel => exact ⟨k + 1, q, by omega, by go_num, rfl, by show OwnV _ _ _ _; rw [HN.out]; exact HO2.out, hb2⟩
        case measure => simp [intOf]; omega
      · rw [hH] at HS kC
        have HN : Hid (among (l.take (k + 1)) ids = among (l.take k) ids ++ [v]) := by show _ = _; rw [HS]; simp
        clear HS hv hv0 hvE hH
        have HO2 : Hid (OwnV ((wr.alloc (Obj.cells #[Value.int IntKind.i64 v.i, Value.int IntKind.i64 v.p] 88)).alloc (Obj.cells #[Value.int IntKind.i64 v.i, Value.int IntKind.i64 v.p] 88)) w.heap.size q (among (l.take k) ids)) := World.ownsRow.alloc (World.ownsRow.alloc HO.out _) _
        have HC : Hid (_) := one_val (wr.alloc (Obj.cells #[Value.int IntKind.i64 v.i, Value.int IntKind.i64 v.p] 88)) v (wr.heap.size + 1) (by simp)
        go_wp2_with fail
        refine kC.mono ?_
        rintro e w2 ⟨rfl, rfl⟩
        go_wp2_with (at_builtin; refine wpList_append_own _ rfl _ _ 28 rfl w.heap.size 88 i0 (.agg #[.int .i64 0, .int .i64 0]) 2 16 Tryz.underlying28 hinf hz0 hz1 hz2 rfl (by decide) _ _ _ rfl HO2.out ⟨wr.heap.size + 1, 0, none⟩ 1 1 (vals [v]) rfl rfl HC.out (vals_one _) (by unfold maxLen; omega) (by omega) (by simp; have := hb.size; omega) ?_)
        intro v' w1 hown' hgrow _
        have HO3 : Hid (OwnV w1 w.heap.size v' (among (l.take (k + 1)) ids)) := by show OwnV _ _ _ _; rw [HN.out]; exact own_snocV hown'
        have hb3 := (hb2.alloc hb2.size (Obj.cells #[Value.int IntKind.i64 v.i, Value.int IntKind.i64 v.p] 88)).grown hgrow (by simp; have := hb.size; omega) (fun j hj => (HO.out.lt j hj).1)
        clear hgrow hown' HC HO2 HO kC c1 c2
        go_wp2
        go_roundw
        case rel =>
          have R : ∃ (k' : Nat) (q : Value), k' ≤ l.length ∧ Value.int .i64 ((k : Int) + 1) = .int .i64 k' ∧ q = v' ∧ Hid (OwnV w1 w.heap.size q (among (l.take k') ids)) ∧ Below w.heap.size w w1 := ⟨k + 1, v', by omega, by go_num, rfl, HO3, hb3⟩
          first | exact R | ((repeat apply Exists.intro); exact ⟨R, rfl⟩)
        case measure => simp [intOf]; omega
    · have hltz : ¬ (k : Int) < (l.length : Int) := by omega
      have HF : Hid (among (l.take k) ids = among l ids) := by show _ = _; rw [List.take_of_length_le (by omega)]
      have HO' : Hid (OwnV wr w.heap.size q (among l ids)) := by show OwnV _ _ _ _; rw [← HF.out]; exact HO.out
      go_wp2
      go_ret
      exact ⟨_, rfl, HO'.out, hb⟩
theorem enough_no {l : List V} {ids : List Int} (h : vOk l = false) : enough l ids = false := by unfold enough; rw [h]; rfl
theorem enough_yes {l : List V} {ids : List Int} (h : vOk l = true) : enough l ids = decide (2 * pw l < 3 * pw (among l ids)) := by unfold enough; rw [h]; rfl
set_option maxHeartbeats 400000 in
set_option maxRecDepth 100000 in
theorem impl_enough (a : Option Addr) (l : List V) (cap : Nat) (a' : Option Addr) (ids : List Int) (cap' : Nat) (w : World) (hl : VO w a l) (hi : Nums w a' ids) (hlen : l.length ≤ 9223372036854775807) (hlen' : ids.length ≤ 9223372036854775807) :
    Calls Tryz.prog 99 #[.slice a l.length cap, .slice a' ids.length cap'] w fun e w' => e = .returned (.bool (enough l ids)) ∧ Below w.heap.size w w' := by
  have kO := impl_okV a l cap w hl hlen
  have HL : Hid (VO w a l) := hl
  have HI : Hid (Nums w a' ids) := hi
  clear hl hi
  rcases hO : vOk l with _ | _
  · have HE : Hid (enough l ids = false) := enough_no hO
    rw [hO] at kO
    clear hO
    go_enter Tryz.func99, Tryz.ntmps99
    go_wp2_with fail
    refine kO.mono ?_
    rintro e w1 ⟨rfl, hb1⟩
    go_wp2
    go_ret
    exact ⟨by rw [HE.out]; rfl, hb1⟩
  · have HE : Hid (enough l ids = decide (2 * pw l < 3 * pw (among l ids))) := enough_yes hO
    have HK : Hid (vOk l = true) := hO
    have HP : Hid (powerOf l = pw l) := by show _ = _; unfold powerOf; rw [hO]; rfl
    have hb0 := pw_take_bound hO l.length
    have hb0' := among_bound hO ids l.length
    rw [List.take_length] at hb0 hb0'
    have HM : Hid (∀ v ∈ among l ids, 1 ≤ v.p ∧ v.p ≤ 1000) := fun v hv => mem_ok hO v (List.mem_filter.1 hv).1
    rw [hO] at kO
    clear hO
    go_enter Tryz.func99, Tryz.ntmps99
    go_wp2_with fail
    refine kO.mono ?_
    rintro e w1 ⟨rfl, hb1⟩
    go_wp2_with fail
    refine (impl_among a l cap a' ids cap' w1 (HL.out.below hb1) (HI.out.below hb1) HK.out hlen').mono ?_
    rintro e w2 ⟨v, rfl, hown, hb2⟩
    obtain ⟨a2, cap2, rfl, hv2, _, _⟩ := OwnV.o hown
    have HV2 : Hid (VO w2 a2 (among l ids)) := hv2
    have hb3 := hb1.trans (hb2.mono hb1.size)
    clear hown hv2 hb1 hb2
    go_wp2_with fail
    refine (sumOf_power a2 (among l ids) cap2 w2 HV2.out hb0'.2.2 HM.out).mono ?_
    rintro e w4 ⟨rfl, hb4⟩
    have hb5 := hb3.trans (hb4.mono hb3.size)
    clear hb3 hb4
    go_wp2_with fail
    refine (impl_power a l cap w4 (HL.out.below hb5) hlen).mono ?_
    rintro e w6 ⟨rfl, hb6⟩
    rw [HP.out]
    have hb7 := hb5.trans (hb6.mono hb5.size)
    clear hb5 hb6
    generalize pw l = x at *
    generalize pw (among l ids) = y at *
    go_wp2
    go_ret
    exact ⟨by rw [HE.out]; rfl, hb7⟩
set_option maxHeartbeats 800000 in
set_option maxRecDepth 100000 in
theorem spec_enough (a : Option Addr) (l : List V) (cap : Nat) (a' : Option Addr) (ids : List Int) (cap' : Nat) (w : World) (hl : VO w a l) (hi : Nums w a' ids) (hlen : l.length ≤ 9223372036854775807) (hlen' : ids.length ≤ 9223372036854775807) :
    Calls Tryz.prog 12 #[.slice a l.length cap, .slice a' ids.length cap'] w fun e w' => e = .returned (.bool (enough l ids)) ∧ Below w.heap.size w w' := by
  have kO := fun W (h : VO W a l) => spec_okV a l cap W h hlen
  have HL : Hid (VO w a l) := hl
  have HI : Hid (Nums w a' ids) := hi
  clear hl hi
  rcases hO : vOk l with _ | _
  · have HE : Hid (enough l ids = false) := enough_no hO
    rw [hO] at kO
    clear hO
    by_cases h0 : (0 : Int) < (l.length : Int)
    · go_enter Tryz.func12, Tryz.ntmps12
      go_wp2
      refine wp_loop_rounds 1 ?_
      rw [rounds_succ]
      go_wp2_with fail
      refine (kO w HL.out).mono ?_
      rintro e w1 ⟨rfl, hb1⟩
      go_wp2_with fail
      refine (kO w1 (HL.out.below hb1)).mono ?_
      rintro e w2 ⟨rfl, hb2⟩
      have hb3 := hb1.trans (hb2.mono hb1.size)
      go_wp2
      go_ret
      exact ⟨by rw [HE.out]; rfl, hb3⟩
    · go_enter Tryz.func12, Tryz.ntmps12
      go_wp2
      refine wp_loop_rounds 1 ?_
      rw [rounds_succ]
      go_wp2_with fail
      refine (kO w HL.out).mono ?_
      rintro e w2 ⟨rfl, hb2⟩
      go_wp2
      go_ret
      exact ⟨by rw [HE.out]; rfl, hb2⟩
  · have HE : Hid (enough l ids = decide (2 * pw l < 3 * pw (among l ids))) := enough_yes hO
    have HK : Hid (vOk l = true) := hO
    have HP : Hid (powerOf l = pw l) := by show _ = _; unfold powerOf; rw [hO]; rfl
    have hb0 := pw_take_bound hO l.length
    rw [List.take_length] at hb0
    have h7 := len_ok hO
    rw [hO] at kO
    clear hO
    rcases HL.out with h0 | ⟨b, o, rfl, hv0⟩
    · omega
    have HV : Hid (VAt w b o l) := hv0
    clear hv0
    go_enter Tryz.func12, Tryz.ntmps12
    go_wp2
    go_loopw [6, 5] (fun iv sv wr => ∃ k : Nat, k ≤ l.length ∧ iv = .int .i64 k ∧ (∃ s : Int, sv = .int .i64 s ∧ Hid (s = pw (among (l.take k) ids)) ∧ 0 ≤ s ∧ s ≤ 7000) ∧ Below w.heap.size w wr) (fun iv _ _ => l.length - (intOf iv).toNat)
    case atStart => exact ⟨0, Nat.zero_le _, rfl, ⟨0, rfl, rfl, by omega, by omega⟩, Below.refl _ _⟩
    case round =>
      obtain ⟨k, hk, rfl, ⟨s, rfl, HS, hs0, hs1⟩, hb⟩ := hrel
      by_cases hlt : k < l.length
      · have hltz : (k : Int) < (l.length : Int) := by omega
        go_wp2_with fail
        refine (kO wr (HL.out.below hb)).mono ?_
        rintro e w1 ⟨rfl, hb1⟩
        have hb2 := hb.trans (hb1.mono hb.size)
        have hv := HV.out.below hb2
        obtain ⟨v, hvE⟩ : ∃ v, l[k] = v := ⟨_, rfl⟩
        have c1 := (hv k hlt).1
        have c2 := (hv k hlt).2
        rw [hvE] at c1 c2
        have hpv := mem_ok HK.out v (by rw [← hvE]; exact List.getElem_mem ..)
        have hsn := pw_among_snoc l ids k hlt
        rw [hvE] at hsn
        have hbd := among_bound HK.out ids (k + 1)
        clear hv hvE
        rcases hH : hasI ids v.i with _ | _
        · rw [hH] at hsn
          have HN : Hid (s = pw (among (l.take (k + 1)) ids)) := by show _ = _; rw [hsn, HS.out]; simp
          have kH := spec_has a' ids cap' v.i w1 (HI.out.below hb2) hlen'
          rw [hH] at kH
          clear hH hsn hbd
          go_wp2_with fail
          refine kH.mono ?_
          rintro e w2 ⟨rfl, rfl⟩
          go_wp2
          go_roundw
          case rel => exact ⟨k + 1, by omega, by go_num, ⟨s, rfl, HN, hs0, hs1⟩, hb2⟩
          case measure => simp [intOf]; omega
        · rw [hH] at hsn
          have HN : Hid (s + v.p = pw (among (l.take (k + 1)) ids)) := by show _ = _; rw [hsn, HS.out]; simp
          have hbd' : 0 ≤ s + v.p ∧ s + v.p ≤ 7000 := by rw [HN.out]; omega
          have kH := spec_has a' ids cap' v.i w1 (HI.out.below hb2) hlen'
          rw [hH] at kH
          clear hH hsn hbd
          go_wp2_with fail
          refine kH.mono ?_
          rintro e w2 ⟨rfl, rfl⟩
          go_wp2
          go_roundw
          case rel => exact ⟨k + 1, by omega, by go_num, ⟨_, rfl, HN, hbd'.1, hbd'.2⟩, hb2⟩
          case measure => simp [intOf]; omega
      · have hltz : ¬ (k : Int) < (l.length : Int) := by omega
        have HF : Hid (enough l ids = decide (2 * pw l < 3 * s)) := by show _ = _; rw [HE.out, HS.out, List.take_of_length_le (by omega)]
        have hlb := HL.out.below hb
        have HLB : Hid (VO wr (some ⟨b, o, none⟩) l) := hlb
        clear hlb
        go_wp2_with fail
        refine (kO wr HLB.out).mono ?_
        rintro e w1 ⟨rfl, hb1⟩
        go_wp2_with fail
        refine (spec_power _ l cap w1 (HLB.out.below hb1) hlen).mono ?_
        rintro e w2 ⟨rfl, hb2⟩
        rw [HP.out]
        have hb3 := hb.trans ((hb1.trans (hb2.mono hb1.size)).mono hb.size)
        clear hb hb1 hb2 HE HS
        generalize pw l = x at *
        go_wp2
        go_ret
        exact ⟨by rw [HF.out]; rfl, hb3⟩
end Go.Proofs.YtajfmjgaaapjeaaGreatDoor
