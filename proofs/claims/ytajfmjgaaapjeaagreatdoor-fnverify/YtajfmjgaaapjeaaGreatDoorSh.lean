/- What the two ShowVals answer; old memory stays. Conditions: rows that a machine can hold. -/
import Derived.Test.YtajfmjgaaapjeaaGreatDoorOk
import Derived.Test.YtajfmjgaaapjeaaGreatDoorVar
import Derived.Test.YtajfmjgaaapjeaaGreatDoorKn2
namespace Go.Proofs.YtajfmjgaaapjeaaGreatDoor
open Go.RowKit
open Num
set_option linter.unusedVariables false
set_option maxHeartbeats 800000 in
set_option maxRecDepth 100000 in
theorem spec_showV (a : Option Addr) (l : List V) (cap : Nat) (w : World) (hl : VO w a l) (hlen : l.length ≤ 9223372036854775807) :
    Calls Tryz.prog 81 #[.slice a l.length cap] w fun e w' => e = .returned (.string (showV l)) ∧ Below w.heap.size w w' := by
  have kO := spec_okV a l cap w hl hlen
  have HL : Hid (VO w a l) := hl
  clear hl
  rcases hO : vOk l with _ | _
  · have HE : Hid (showV l = ⟨#[]⟩) := showV_no hO
    rw [hO] at kO
    clear hO
    go_enter Tryz.func81, Tryz.ntmps81
    go_wp2_with fail
    refine kO.mono ?_
    rintro e w1 ⟨rfl, hb1⟩
    go_wp2
    go_ret
    exact ⟨by rw [HE.out]; rfl, hb1⟩
  · have HE : Hid (showV l = shB l.length l) := showV_yes hO
    have h7 := len_ok hO
    rw [hO] at kO
    clear hO
    rcases HL.out with h0 | ⟨b, o, rfl, hv0⟩
    · omega
    have HV : Hid (VAt w b o l) := hv0
    clear hv0
    go_enter Tryz.func81, Tryz.ntmps81
    go_wp2_with fail
    refine kO.mono ?_
    rintro e w1 ⟨rfl, hb1⟩
    go_wp2_with fail
    refine (spec_var _ _).mono ?_
    rintro e w2 ⟨rfl, hb2⟩
    have hb3 := hb1.trans (hb2.mono hb1.size)
    have HB3 : Hid (Below w.heap.size w w2) := hb3
    clear hb1 hb2 hb3
    go_wp2
    go_loopw [4, 3] (fun iv sv wr => ∃ (k : Nat) (s : ByteArray), k ≤ l.length ∧ iv = .int .i64 k ∧ sv = .string s ∧ Hid (s = shB l.length (l.take k)) ∧ s.size ≤ 105 ∧ Below w.heap.size w wr) (fun iv _ _ => l.length - (intOf iv).toNat)
    case atStart => exact ⟨0, _, Nat.zero_le _, rfl, rfl, rfl, by have := var_size (l.length : Int); omega, HB3.out⟩
    case round =>
      obtain ⟨k, s, hk, rfl, rfl, HS, hs, hb⟩ := hrel
      by_cases hlt : k < l.length
      · have hltz : (k : Int) < (l.length : Int) := by omega
        have hne := bel_some wr
        obtain ⟨v, hvE⟩ : ∃ v, l[k] = v := ⟨_, rfl⟩
        have c1 := fun p : Bel wr => p.cell ((HV.out.below hb) k hlt).1
        have c2 := fun p : Bel wr => p.cell ((HV.out.below hb) k hlt).2
        rw [hvE] at c1 c2
        have hsz := shB_size l.length l (k + 1) (by omega)
        have HN := shB_snoc l.length l k hlt
        rw [hvE, ← HS.out, ← ByteArray.append_assoc] at HN
        rw [HN] at hsz
        have HN' : Hid (s ++ var v.i ++ var v.p = shB l.length (l.take (k + 1))) := HN.symm
        have hv1 := var_size v.i
        have hv2 := var_size v.p
        have e1 := ByteArray.size_append (a := s) (b := var v.i)
        have g1 : ¬ 9223372036854775807 < s.size + (var v.i).size := by omega
        have g2 : ¬ 9223372036854775807 < (s ++ var v.i).size + (var v.p).size := by omega
        have hsz' : (s ++ var v.i ++ var v.p).size ≤ 105 := by omega
        clear HN hsz hvE e1 hv1 hv2
        go_wp2_with fail
        refine wp_region_below (by kernel_rfl) (by kernel_rfl) ?_
        repeat (go_big_quiet_step ((go_at_call 83; exact bel_of (spec_var _ _))))
        refine wpQuiet_nil ?_
        intro _ hw'
        obtain ⟨pq, hw''⟩ := hw'
        subst hw''
        have hb3 := hb.trans (pq.h.mono hb.size)
        go_wp2
        go_roundw
        case rel => exact ⟨k + 1, _, by omega, by go_num, rfl, HN', hsz', hb3⟩
        case measure => simp [intOf]; omega
      · have hltz : ¬ (k : Int) < (l.length : Int) := by omega
        have HF : Hid (showV l = s) := by show _ = _; rw [HE.out, HS.out, List.take_of_length_le (by omega)]
        go_wp2
        go_ret
        exact ⟨by rw [HF.out]; rfl, hb⟩
set_option maxHeartbeats 800000 in
set_option maxRecDepth 100000 in
theorem impl_showV (a : Option Addr) (l : List V) (cap : Nat) (w : World) (hl : VO w a l) (hlen : l.length ≤ 9223372036854775807) :
    Calls Tryz.prog 98 #[.slice a l.length cap] w fun e w' => e = .returned (.string (showV l)) ∧ Below w.heap.size w w' := by
  have kO := impl_okV a l cap w hl hlen
  have HL : Hid (VO w a l) := hl
  clear hl
  rcases hO : vOk l with _ | _
  · have HE : Hid (showV l = ⟨#[]⟩) := showV_no hO
    rw [hO] at kO
    clear hO
    go_enter Tryz.func98, Tryz.ntmps98
    go_wp2_with fail
    refine kO.mono ?_
    rintro e w1 ⟨rfl, hb1⟩
    go_wp2
    go_ret
    exact ⟨by rw [HE.out]; rfl, hb1⟩
  · have HE : Hid (showV l = shB l.length l) := showV_yes hO
    have h7 := len_ok hO
    rw [hO] at kO
    clear hO
    rcases HL.out with h0 | ⟨b, o, rfl, hv0⟩
    · omega
    have HV : Hid (VAt w b o l) := hv0
    clear hv0
    go_enter Tryz.func98, Tryz.ntmps98
    go_wp2_with fail
    refine kO.mono ?_
    rintro e w1 ⟨rfl, hb1⟩
    go_wp2_with fail
    refine (impl_var _ _).mono ?_
    rintro e w2 ⟨rfl, hb2⟩
    have hb3 := hb1.trans (hb2.mono hb1.size)
    have HB3 : Hid (Below w.heap.size w w2) := hb3
    clear hb1 hb2 hb3
    go_wp2
    go_loopw [14, 3] (fun iv sv wr => ∃ (k : Nat) (s : ByteArray), k ≤ l.length ∧ iv = .int .i64 k ∧ sv = .string s ∧ Hid (s = shB l.length (l.take k)) ∧ s.size ≤ 105 ∧ Below w.heap.size w wr) (fun iv _ _ => l.length - (intOf iv).toNat)
    case atStart => exact ⟨0, _, Nat.zero_le _, rfl, rfl, rfl, by have := var_size (l.length : Int); omega, HB3.out⟩
    case round =>
      obtain ⟨k, s, hk, rfl, rfl, HS, hs, hb⟩ := hrel
      by_cases hlt : k < l.length
      · have hltz : (k : Int) < (l.length : Int) := by omega
        obtain ⟨v, hvE⟩ : ∃ v, l[k] = v := ⟨_, rfl⟩
        have c1 := ((HV.out.below hb) k hlt).1
        have c2 := ((HV.out.below hb) k hlt).2
        rw [hvE] at c1 c2
        have hsz := shB_size l.length l (k + 1) (by omega)
        have HN := shB_snoc l.length l k hlt
        rw [hvE, ← HS.out] at HN
        rw [HN] at hsz
        have HN' : Hid (s ++ (var v.i ++ var v.p) = shB l.length (l.take (k + 1))) := HN.symm
        have hv1 := var_size v.i
        have hv2 := var_size v.p
        have e1 := ByteArray.size_append (a := var v.i) (b := var v.p)
        have g1 : ¬ 9223372036854775807 < (var v.i).size + (var v.p).size := by omega
        have g2 : ¬ 9223372036854775807 < s.size + (var v.i ++ var v.p).size := by omega
        have hsz' : (s ++ (var v.i ++ var v.p)).size ≤ 105 := by omega
        clear HN hsz hvE e1 hv1 hv2
        go_wp2_with fail
        have d1 : (wr.alloc (Obj.cells #[Value.int IntKind.i64 v.i, Value.int IntKind.i64 v.p] 88)).cell? ⟨wr.heap.size, 0, none⟩ = some (.int .i64 v.i) := by simp
        have d2 : (wr.alloc (Obj.cells #[Value.int IntKind.i64 v.i, Value.int IntKind.i64 v.p] 88)).cell? ⟨wr.heap.size, 1, none⟩ = some (.int .i64 v.p) := by simp
        replace hb : Below w.heap.size w (wr.alloc (Obj.cells #[Value.int IntKind.i64 v.i, Value.int IntKind.i64 v.p] 88)) := hb.alloc hb.size _
        clear c1 c2
        generalize wr.alloc (Obj.cells #[Value.int IntKind.i64 v.i, Value.int IntKind.i64 v.p] 88) = wn at *
        have hne := bel_some wn
        have c1 := fun p : Bel wn => p.cell d1
        have c2 := fun p : Bel wn => p.cell d2
        clear d1 d2
        refine wp_region_below (by kernel_rfl) (by kernel_rfl) ?_
        repeat (go_big_quiet_step ((go_at_call 113; exact bel_of (impl_var _ _))))
        refine wpQuiet_nil ?_
        intro _ hw'
        obtain ⟨pq, hw''⟩ := hw'
        subst hw''
        have hb3 := hb.trans (pq.h.mono hb.size)
        go_wp2
        go_roundw
        case rel => exact ⟨k + 1, _, by omega, by go_num, rfl, HN', hsz', hb3⟩
        case measure => simp [intOf]; omega
      · have hltz : ¬ (k : Int) < (l.length : Int) := by omega
        have HF : Hid (showV l = s) := by show _ = _; rw [HE.out, HS.out, List.take_of_length_le (by omega)]
        go_wp2
        go_ret
        exact ⟨by rw [HF.out]; rfl, hb⟩
end Go.Proofs.YtajfmjgaaapjeaaGreatDoor
