/- What the two SignAs answer; old memory stays. Conditions: a digest of fewer than 2 to the 40 bytes; the table. -/
import Derived.Test.YtclajbadeclbdaaDoorVo
import Derived.Test.YtclajbadeclbdaaDoorFx
import Derived.Test.YtclajbadeclbdaaDoorSho
namespace Go.Proofs.YtclajbadeclbdaaDoor
open Go.RowKit
open Num
set_option linter.unusedVariables false
/-- What a validator signs a digest with. -/
def sgn (n : Int) (d : ByteArray) : ByteArray := bif inIs n 1 99 then shortB (⟨#[4]⟩ ++ fx n 2 ++ d) else ⟨#[]⟩
theorem sgn_no {n : Int} {d : ByteArray} (h : inIs n 1 99 = false) : sgn n d = ⟨#[]⟩ := by unfold sgn; rw [h]; rfl
theorem sgn_yes {n : Int} {d : ByteArray} (h : inIs n 1 99 = true) : sgn n d = shortB (⟨#[4]⟩ ++ fx n 2 ++ d) := by unfold sgn; rw [h]; rfl
theorem sgn_size (n : Int) (d : ByteArray) : (sgn n d).size ≤ 8 := by
  cases h : inIs n 1 99 with
  | false => rw [sgn_no h]; show 0 ≤ 8; omega
  | true => rw [sgn_yes h, size_shortB]; omega
theorem fx_two (n : Int) : (fx n 2).size ≤ 2 := by
  unfold fx
  cases fxOk n 2 with
  | false => show 0 ≤ 2; omega
  | true =>
    show (lo n 2).toArray.size ≤ 2
    rw [List.size_toArray, length_lo]; exact Nat.le_refl _
set_option maxHeartbeats 800000 in
theorem spec_sgn (n : Int) (d : ByteArray) (w : World) (hd : d.size ≤ 1000000000000) :
    Calls Tryd.prog 54 #[.int .i64 n, .string d] w fun e w' => e = .returned (.string (sgn n d)) ∧ Below w.heap.size w w' := by
  have kI := fun W => spec_in n 1 99 W
  rcases hO : inIs n 1 99 with _ | _
  · rw [sgn_no hO]
    rw [hO] at kI
    clear hO
    go_enter Tryd.func54, Tryd.ntmps54
    go_wp2_with fail
    refine (kI _).mono ?_
    rintro e w1 ⟨rfl, rfl⟩
    go_wp2
    go_ret
    exact ⟨rfl, Below.refl _ _⟩
  · have HE : Hid (sgn n d = shortB (⟨#[4]⟩ ++ fx n 2 ++ d)) := sgn_yes hO
    have hn : n ≤ 9223372036854775807 := by have := (in_iff n 1 99).1 hO; omega
    rw [hO] at kI
    clear hO
    have kF := fun W => spec_fx n 2 W hn
    have hz := fx_two n
    generalize sgn n d = R at *
    generalize fx n 2 = q at *
    have e1 := ByteArray.size_append (a := ⟨#[4]⟩) (b := q)
    have e2 := ByteArray.size_append (a := ⟨#[4]⟩ ++ q) (b := d)
    have e0 : (⟨#[4]⟩ : ByteArray).size = 1 := rfl
    have m1 : ¬ 9223372036854775807 < (⟨#[4]⟩ : ByteArray).size + q.size := by omega
    have m1' : ¬ 9223372036854775807 < 1 + q.size := by omega
    have m2 : ¬ 9223372036854775807 < (⟨#[4]⟩ ++ q : ByteArray).size + d.size := by omega
    have hs : (⟨#[4]⟩ ++ q ++ d : ByteArray).size ≤ 1099511627776 := by omega
    clear e0 e1 e2 hz hd hn
    go_enter Tryd.func54, Tryd.ntmps54
    go_wp2_with fail
    refine (kI _).mono ?_
    rintro e w1 ⟨rfl, rfl⟩
    go_wp2_with fail
    refine (kF _).mono ?_
    rintro e w2 ⟨rfl, b2⟩
    have HB2 : Hid (Below w1.heap.size w1 w2) := b2
    clear b2
    go_wp2_with fail
    refine (spec_short _ w2 hs).mono ?_
    rintro e w3 ⟨rfl, b3⟩
    have HB3 : Hid (Below w1.heap.size w1 w3) := HB2.out.trans (b3.mono HB2.out.size)
    clear b3
    go_wp2
    go_ret
    exact ⟨by rw [HE.out]; rfl, HB3.out⟩
set_option maxHeartbeats 800000 in
theorem impl_sgn (n : Int) (d : ByteArray) (w : World) (hd : d.size ≤ 1000000000000) (hT : Tab w) :
    Calls Tryd.prog 99 #[.int .i64 n, .string d] w fun e w' => e = .returned (.string (sgn n d)) ∧ Below w.heap.size w w' := by
  have HT : Hid (Tab w) := hT
  clear hT
  have kI := fun W => impl_isV n W
  rcases hO : inIs n 1 99 with _ | _
  · rw [sgn_no hO]
    rw [hO] at kI
    clear hO
    go_enter Tryd.func99, Tryd.ntmps99
    go_wp2_with fail
    refine (kI _).mono ?_
    rintro e w1 ⟨rfl, rfl⟩
    go_wp2
    go_ret
    exact ⟨rfl, Below.refl _ _⟩
  · have HE : Hid (sgn n d = shortB (⟨#[4]⟩ ++ fx n 2 ++ d)) := sgn_yes hO
    have hn : n ≤ 9223372036854775807 := by have := (in_iff n 1 99).1 hO; omega
    rw [hO] at kI
    clear hO
    have kF := fun W => impl_fx n 2 W hn
    have hz := fx_two n
    generalize sgn n d = R at *
    generalize fx n 2 = q at *
    have e1 := ByteArray.size_append (a := ⟨#[4]⟩) (b := q)
    have e2 := ByteArray.size_append (a := ⟨#[4]⟩ ++ q) (b := d)
    have e0 : (⟨#[4]⟩ : ByteArray).size = 1 := rfl
    have m1 : ¬ 9223372036854775807 < (⟨#[4]⟩ : ByteArray).size + q.size := by omega
    have m1' : ¬ 9223372036854775807 < 1 + q.size := by omega
    have m2 : ¬ 9223372036854775807 < (⟨#[4]⟩ ++ q : ByteArray).size + d.size := by omega
    have hs : (⟨#[4]⟩ ++ q ++ d : ByteArray).size ≤ 1099511627776 := by omega
    clear e0 e1 e2 hz hd hn
    go_enter Tryd.func99, Tryd.ntmps99
    go_wp2_with fail
    refine (kI _).mono ?_
    rintro e w1 ⟨rfl, rfl⟩
    go_wp2_with fail
    refine (kF _).mono ?_
    rintro e w2 ⟨rfl, b2⟩
    have HB2 : Hid (Below w1.heap.size w1 w2) := b2
    clear b2
    go_wp2_with fail
    refine (impl_short _ w2 hs (HT.out.below HB2.out HT.out.pos)).mono ?_
    rintro e w3 ⟨rfl, b3⟩
    have HB3 : Hid (Below w1.heap.size w1 w3) := HB2.out.trans (b3.mono HB2.out.size)
    clear b3
    go_wp2
    go_ret
    exact ⟨by rw [HE.out]; rfl, HB3.out⟩
end Go.Proofs.YtclajbadeclbdaaDoor
