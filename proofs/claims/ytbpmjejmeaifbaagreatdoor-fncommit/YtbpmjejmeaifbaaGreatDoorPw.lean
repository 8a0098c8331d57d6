/- What Val.power, sumOf at it, and the two PowerOf answer; old memory stays. Conditions: rows that a machine can hold. -/
import Derived.Test.YtbpmjejmeaifbaaGreatDoorOk
namespace Go.Proofs.YtbpmjejmeaifbaaGreatDoor
open Go.RowKit
open Num
set_option linter.unusedVariables false
theorem ret_int {k : IntKind} {a b : Int} (h : a = b) : Ending.returned (.int k a) = .returned (.int k b) := by rw [h]
set_option maxHeartbeats 400000 in
set_option maxRecDepth 100000 in
theorem power_any (x y : Int) (w : World) :
    Calls Tryz.prog 64 #[.agg #[.int .i64 x, .int .i64 y]] w fun e w' => e = .returned (.int .i64 y) ∧ Below w.heap.size w w' := by
  go_enter Tryz.func64, Tryz.ntmps64
  go_wp2
  go_ret
  exact ⟨rfl, (Below.refl _ _).alloc (Nat.le_refl _) _⟩
set_option maxHeartbeats 400000 in
set_option maxRecDepth 100000 in
theorem sumOf_power (a : Option Addr) (l : List V) (cap : Nat) (w : World) (hl : VO w a l) (h7 : l.length ≤ 7) (hp : ∀ v ∈ l, 1 ≤ v.p ∧ v.p ≤ 1000) :
    Calls Tryz.prog 62 #[.slice a l.length cap, .func (.func 64) #[] #[]] w fun e w' => e = .returned (.int .i64 (pw l)) ∧ Below w.heap.size w w' := by
  have HL : Hid (VO w a l) := hl
  have HP : Hid (∀ v ∈ l, 1 ≤ v.p ∧ v.p ≤ 1000) := hp
  clear hl hp
  go_enter Tryz.func62, Tryz.ntmps62
  go_wp2
  go_loopw [10, 5] (fun iv sv wr => ∃ k : Nat, k ≤ l.length ∧ iv = .int .i64 k ∧ (∃ s : Int, sv = .int .i64 s ∧ Hid (s = pw (l.take k)) ∧ 0 ≤ s ∧ s ≤ 7000) ∧ Below w.heap.size w wr) (fun iv _ _ => l.length - (intOf iv).toNat)
  case atStart => exact ⟨0, Nat.zero_le _, rfl, ⟨0, rfl, rfl, by omega, by omega⟩, Below.refl _ _⟩
  case round =>
    obtain ⟨k, hk, rfl, ⟨s, rfl, HS, hs0, hs1⟩, hb⟩ := hrel
    by_cases hlt : k < l.length
    · have hltz : (k : Int) < (l.length : Int) := by omega
      rcases HL.out with h0 | ⟨b, o, rfl, hv0⟩
      · omega
      have hv := hv0.below hb
      obtain ⟨v, hvE⟩ : ∃ v, l[k] = v := ⟨_, rfl⟩
      have c1 := (hv k hlt).1
      have c2 := (hv k hlt).2
      rw [hvE] at c1 c2
      have hpv := HP.out v (by rw [← hvE]; exact List.getElem_mem ..)
      have HN : Hid (s + v.p = pw (l.take (k + 1))) := by show _ = _; rw [pw_snoc l k hlt, hvE, HS.out]
      have hbd : 0 ≤ s + v.p ∧ s + v.p ≤ 7000 := by
        have h1 := pw_bound (l.take (k + 1)) (fun x hx => HP.out x (List.mem_of_mem_take hx))
        have h2 := List.length_take_le' (k + 1) l
        rw [HN.out]; omega
      clear hv hv0 hvE
      go_wp2_with fail
      refine (power_any _ _ _).mono ?_
      rintro e w2 ⟨rfl, hb2⟩
      have hb3 := (hb.alloc hb.size (Obj.cells #[Value.int IntKind.i64 v.i, Value.int IntKind.i64 v.p] 69)).trans (hb2.mono (by simp; have := hb.size; omega))
      clear c1 c2 hb2
      go_wp2
      go_roundw
      case rel => exact ⟨k + 1, by omega, by go_num, ⟨_, rfl, HN, hbd.1, hbd.2⟩, hb3⟩
      case measure => simp [intOf]; omega
    · have hltz : ¬ (k : Int) < (l.length : Int) := by omega
      have HF : Hid (pw l = s) := by show _ = _; rw [HS.out, List.take_of_length_le (by omega)]
      go_wp2
      go_ret
      exact ⟨by rw [HF.out]; rfl, hb⟩
set_option maxHeartbeats 400000 in
set_option maxRecDepth 100000 in
theorem impl_power (a : Option Addr) (l : List V) (cap : Nat) (w : World) (hl : VO w a l) (hlen : l.length ≤ 9223372036854775807) :
    Calls Tryz.prog 65 #[.slice a l.length cap] w fun e w' => e = .returned (.int .i64 (powerOf l)) ∧ Below w.heap.size w w' := by
  have HL : Hid (VO w a l) := hl
  have kO := impl_okV a l cap w hl hlen
  clear hl
  rcases hO : vOk l with _ | _
  · have HE : Hid (powerOf l = 0) := by show _ = _; unfold powerOf; rw [hO]; rfl
    rw [hO] at kO
    clear hO
    go_enter Tryz.func65, Tryz.ntmps65
    go_wp2_with fail
    refine kO.mono ?_
    rintro e w1 ⟨rfl, hb1⟩
    go_wp2
    go_ret
    exact ⟨by rw [HE.out]; rfl, hb1⟩
  · have HE : Hid (powerOf l = pw l) := by show _ = _; unfold powerOf; rw [hO]; rfl
    have HK : Hid (vOk l = true) := hO
    rw [hO] at kO
    clear hO
    go_enter Tryz.func65, Tryz.ntmps65
    go_wp2_with fail
    refine kO.mono ?_
    rintro e w1 ⟨rfl, hb1⟩
    go_wp2_with fail
    refine (sumOf_power a l cap w1 (HL.out.below hb1) (len_ok HK.out).2 (mem_ok HK.out)).mono ?_
    rintro e w2 ⟨rfl, hb2⟩
    have hb3 := hb1.trans (hb2.mono hb1.size)
    go_wp2
    go_ret
    exact ⟨by rw [HE.out]; rfl, hb3⟩
set_option maxHeartbeats 400000 in
set_option maxRecDepth 100000 in
theorem spec_power (a : Option Addr) (l : List V) (cap : Nat) (w : World) (hl : VO w a l) (hlen : l.length ≤ 9223372036854775807) :
    Calls Tryz.prog 37 #[.slice a l.length cap] w fun e w' => e = .returned (.int .i64 (powerOf l)) ∧ Below w.heap.size w w' := by
  have HL : Hid (VO w a l) := hl
  have kO := fun W (h : VO W a l) => spec_okV a l cap W h hlen
  clear hl
  rcases hO : vOk l with _ | _
  · have HE : Hid (powerOf l = 0) := by show _ = _; unfold powerOf; rw [hO]; rfl
    rw [hO] at kO
    clear hO
    by_cases h0 : (0 : Int) < (l.length : Int)
    · go_enter Tryz.func37, Tryz.ntmps37
      go_wp2
      refine wp_loop_rounds 1 ?_
      rw [rounds_succ]
      go_wp2_with fail
      refine (kO w HL.out).mono ?_
      rintro e w1 ⟨rfl, hb1⟩
      go_wp2
      go_ret
      exact ⟨by rw [HE.out]; rfl, hb1⟩
    · go_enter Tryz.func37, Tryz.ntmps37
      go_wp2
      refine wp_loop_rounds 1 ?_
      rw [rounds_succ]
      go_wp2
      go_ret
      exact ⟨by rw [HE.out]; rfl, Below.refl _ _⟩
  · have HE : Hid (powerOf l = pw l) := by show _ = _; unfold powerOf; rw [hO]; rfl
    have HK : Hid (vOk l = true) := hO
    have h7 := len_ok hO
    rw [hO] at kO
    clear hO
    rcases HL.out with h0 | ⟨b, o, rfl, hv0⟩
    · omega
    have HV : Hid (VAt w b o l) := hv0
    clear hv0
    go_enter Tryz.func37, Tryz.ntmps37
    go_wp2
    go_loopw [4, 3] (fun iv sv wr => ∃ k : Nat, k ≤ l.length ∧ iv = .int .i64 k ∧ (∃ s : Int, sv = .int .i64 s ∧ Hid (s = pw (l.take k)) ∧ 0 ≤ s ∧ s ≤ 7000) ∧ Below w.heap.size w wr) (fun iv _ _ => l.length - (intOf iv).toNat)
    case atStart => exact ⟨0, Nat.zero_le _, rfl, ⟨0, rfl, rfl, by omega, by omega⟩, Below.refl _ _⟩
    case round =>
      obtain ⟨k, hk, rfl, ⟨s, rfl, HS, hs0, hs1⟩, hb⟩ := hrel
      by_cases hlt : k < l.length
      · have hltz : (k : Int) < (l.length : Int) := by omega
        go_wp2_with fail
        refine (kO wr (HL.out.below hb)).mono ?_
        rintro e w1 ⟨rfl, hb1⟩
        have hb2 := hb.trans (hb1.mono hb.size)
        have hv := HV.out.below hb2
        obtain ⟨v, hvE⟩ : ∃ v, l[k] = v := ⟨_, rfl⟩
        have c2 := (hv k hlt).2
        rw [hvE] at c2
        have hpv := mem_ok HK.out v (by rw [← hvE]; exact List.getElem_mem ..)
        have HN : Hid (s + v.p = pw (l.take (k + 1))) := by show _ = _; rw [pw_snoc l k hlt, hvE, HS.out]
        have hbd : 0 ≤ s + v.p ∧ s + v.p ≤ 7000 := by
          have h1 := pw_take_bound HK.out (k + 1)
          rw [HN.out]; omega
        clear hv hvE
        go_wp2
        go_roundw
        case rel => exact ⟨k + 1, by omega, by go_num, ⟨_, rfl, HN, hbd.1, hbd.2⟩, hb2⟩
        case measure => simp [intOf]; omega
      · have hltz : ¬ (k : Int) < (l.length : Int) := by omega
        have HF : Hid (powerOf l = s) := by show _ = _; rw [HE.out, HS.out, List.take_of_length_le (by omega)]
        go_wp2
        go_ret
        exact ⟨by rw [HF.out]; rfl, hb⟩
end Go.Proofs.YtbpmjejmeaifbaaGreatDoor
