/- What spec.Fixed and impl.Fixed answer: the lowest bytes of a number that fits, else nothing; old memory stays. What the two SignAs answer; old memory stays. Conditions: a digest of fewer than 2 to the 40 bytes; the table. What the two Digest answer; old memory stays. Conditions: none of ours. -/
import Derived.Test.YtajfmjgaaapjeaaGreatDoorG4
import Derived.Test.YtajfmjgaaapjeaaGreatDoorG2
import Derived.WalkKit
import Derived.WalkLawsBesides
import Derived.WalkSpells
import Derived.Test.YtajfmjgaaapjeaaGreatDoorSho
import Derived.Test.YtajfmjgaaapjeaaGreatDoorVar
namespace Go.Proofs.YtajfmjgaaapjeaaGreatDoor
open Go.RowKit
open Num
set_option linter.unusedVariables false
set_option maxHeartbeats 400000 in
theorem spec_fx_yes (n width : Int) (w : World) (h1 : 1 ≤ width) (h2 : width ≤ 7) (h3 : 0 ≤ n) (h4 : n ≤ 9223372036854775807) :
    Calls Tryz.prog 108 #[.int .i64 n, .int .i64 width] w fun e w' => e = .returned (.string (fx n width)) ∧ Below w.heap.size w w' := by
  go_enter Tryz.func108, Tryz.ntmps108
  go_wp2
  go_loopw [0, 5, 6] (fun m out i wr => ∃ k : Nat, (k : Int) ≤ width ∧ i = .int .i64 k ∧ (∃ m' : Int, m = .int .i64 m' ∧ 0 ≤ m' ∧ m' ≤ 9223372036854775807 ∧ Hid (m' = n / 256 ^ k)) ∧ (∃ s : ByteArray, s.size = k ∧ out = .string s ∧ Hid (s = ⟨(lo n k).toArray⟩)) ∧ Below w.heap.size w wr) (fun _ _ i _ => width.toNat - (intOf i).toNat)
  case atStart => exact ⟨0, by omega, rfl, ⟨n, rfl, h3, by omega, show n = n / 256 ^ 0 by simp⟩, ⟨_, rfl, rfl, rfl⟩, Below.refl _ _⟩
  case round =>
    obtain ⟨k, hk, rfl, ⟨m', rfl, hm, hm', Hm⟩, ⟨s, hs, rfl, Hs⟩, hb⟩ := hrel
    have hs7 : s.size ≤ 7 := by omega
    have HS : Hid (s.size = k) := hs
    clear hs
    by_cases hlt : (k : Int) < width
    · have hcv := run_str_one (P := Tryz.prog) wr 22 9 5 Tryz.underlying22 Tryz.underlying5 Tryz.underlying9 (m' % 256) (by omega) (by omega)
      go_wp2
      go_roundw
      case rel =>
        refine ⟨k + 1, by omega, by go_num, ⟨m' / 256, rfl, by omega, by omega, ?_⟩, ⟨_, ?_, rfl, ?_⟩, hb.alloc hb.size _⟩
        · show m' / 256 = _
          rw [Hm.out, div_pow_succ]
        · rw [ByteArray.size_append, HS.out]; show 1 + k = k + 1; omega
        · show _ = _
          rw [Hs.out, cons_mk, Hm.out]; rfl
      case measure => simp [intOf]; omega
    · have hkw : width = (k : Int) := by omega
      clear hlt
      subst hkw
      by_cases hz : 0 < m'
      · have hfin : Hid (fx n k = ⟨#[]⟩) := fx_no n k (by have := Hm.out; simp; omega)
        go_wp2
        go_ret
        exact ⟨ret_str hfin.out.symm, hb⟩
      · have hfin : Hid (fx n k = s) := by
          show _ = _
          rw [fx_yes n k h1 h2 h3 (by have := Hm.out; simp; omega), Hs.out]; rfl
        go_wp2
        go_ret
        exact ⟨ret_str hfin.out.symm, hb⟩
set_option maxHeartbeats 400000 in
theorem spec_fx_no (n width : Int) (w : World) (h : width < 1 ∨ 7 < width ∨ n < 0) :
    Calls Tryz.prog 108 #[.int .i64 n, .int .i64 width] w fun e w' => e = .returned (.string (fx n width)) ∧ Below w.heap.size w w' := by
  rw [fx_no n width (by omega)]
  rcases (show width < 1 ∨ (1 ≤ width ∧ 7 < width) ∨ (1 ≤ width ∧ width ≤ 7 ∧ n < 0) from by omega) with h | ⟨h, h'⟩ | ⟨h, h', h''⟩
  · have hh : ¬ 1 ≤ width := by omega
    go_enter Tryz.func108, Tryz.ntmps108
    go_wp2
    go_ret
    exact ⟨rfl, Below.refl _ _⟩
  · have hh : ¬ width ≤ 7 := by omega
    go_enter Tryz.func108, Tryz.ntmps108
    go_wp2
    go_ret
    exact ⟨rfl, Below.refl _ _⟩
  · go_enter Tryz.func108, Tryz.ntmps108
    go_wp2
    go_ret
    exact ⟨rfl, Below.refl _ _⟩
theorem spec_fx (n width : Int) (w : World) (hn : n ≤ 9223372036854775807) :
    Calls Tryz.prog 108 #[.int .i64 n, .int .i64 width] w fun e w' => e = .returned (.string (fx n width)) ∧ Below w.heap.size w w' := by
  by_cases h : width < 1 ∨ 7 < width ∨ n < 0
  · exact spec_fx_no n width w h
  · exact spec_fx_yes n width w (by omega) (by omega) (by omega) hn
set_option maxHeartbeats 400000 in
theorem impl_fx_yes (n width : Int) (w : World) (h1 : 1 ≤ width) (h2 : width ≤ 7) (h3 : 0 ≤ n) (h4 : n ≤ 9223372036854775807) (h5 : n / 256 ^ width.toNat ≤ 0) :
    Calls Tryz.prog 164 #[.int .i64 n, .int .i64 width] w fun e w' => e = .returned (.string (fx n width)) ∧ Below w.heap.size w w' := by
  obtain ⟨m, rfl⟩ : ∃ m : Nat, width = (m : Int) := ⟨width.toNat, by omega⟩
  rw [fx_yes n m h1 h2 h3 h5]
  obtain ⟨i0, hi, hz0, hz1, hz2⟩ := info5f
  have hsh : (n / 2 ^ (8 * m) != 0) = false := by
    have := div_pow_nonneg n m h3
    rw [two_pow8]; simp at h5 ⊢; omega
  have hn0 : ¬ n < 0 := by omega
  clear h5
  go_enter Tryz.func164, Tryz.ntmps164
  go_wp2_with (first | go_in | (at_make; refine wpList_make_full _ rfl _ _ 22 rfl w.heap.size 5 i0 (.int .u8 0) 1 Tryz.underlying22 hi hz0 hz1 _ _ _ _ m rfl rfl rfl rfl (by rw [hz2]; omega) (by unfold maxLen; omega) (Nat.le_refl _) ?_; intro w1 hown hgr))
  have hrow := own_whole hown
  rw [made_zero, ← rowPart_zero (lo n m) m] at hrow
  have HR : Hid (_ = _) := hrow
  have hb1 := below_of_grown hgr
  clear hown hgr hrow
  go_loopw [6] (fun at_ wr => ∃ k : Nat, k ≤ m ∧ at_ = .int .i64 k ∧ Hid (wr.heap[w.heap.size]? = some (.cells ((rowPart (lo n m) k m).map u8v).toArray 5 (0, 0))) ∧ Below w.heap.size w wr) (fun at_ _ => m - (intOf at_).toNat)
  case atStart => exact ⟨0, by omega, rfl, HR, hb1⟩
  case round =>
    clear HR hb1 w1
    obtain ⟨k, hk, rfl, HR, hb⟩ := hrel
    by_cases hlt : (k : Int) < (m : Int)
    · have hx0 : 0 ≤ n / 2 ^ (8 * (m - 1 - k)) % 256 := by omega
      have hx1 : n / 2 ^ (8 * (m - 1 - k)) % 256 < 256 := by omega
      have HO : Hid (_ = _) := one_row wr _ hx0 hx1
      have hlen := length_lo n m
      have HL : Hid (_ = _) := length_rowPart (lo n m) k m hlen hk
      have HA : Hid (_ = _) := lo_at n m k (by omega)
      have HLN : Hid (_ = _) := hlen
      clear hlen hx0 hx1
      have hsz : w.heap.size < wr.heap.size := (Array.getElem?_eq_some_iff.1 HR.out).1
      go_wp2_with fail
      refine (impl_pb w.heap.size wr.heap.size k m 1 (rowPart (lo n m) k m) [UInt8.ofNat (n / 2 ^ (8 * (m - 1 - k)) % 256).toNat] _ ?_ HL.out ?_ rfl (by omega) (by omega) (by omega) w.heap.size (Nat.le_refl _)).mono ?_
      · rw [Below.heap_alloc _ _ _ hsz]; exact HR.out
      · exact HO.out
      · rintro e w2 ⟨rfl, hr2, hb2⟩
        have HR2 : Hid (_ = _) := hr2
        clear hr2
        go_wp2
        go_roundw
        case rel =>
          refine ⟨k + 1, by omega, by go_num, ?_, (hb.alloc hb.size _).trans hb2⟩
          show _ = _
          rw [HR2.out, splice_rowPart (lo n m) _ k m HLN.out (by simp; omega) (by
            have := HA.out
            rw [← two_pow8] at this
            rw [List.length_singleton, List.take_one, List.head?_drop, this]; rfl)]
          rfl
        case measure => simp [intOf]; omega
    · have hkm : k = m := by omega
      subst hkm
      have hcv := run_str_row (P := Tryz.prog) wr 22 9 5 Tryz.underlying22 Tryz.underlying5 Tryz.underlying9 w.heap.size k (lo n k) [] 5 (0, 0) (by
        rw [HR.out, rowPart_all _ _ (length_lo n k)]; simp)
      rw [length_lo] at hcv
      go_wp2
      go_ret
      exact ⟨rfl, hb⟩
set_option maxHeartbeats 400000 in
theorem impl_fx_no (n width : Int) (w : World) (h4 : n ≤ 9223372036854775807) (h : width < 1 ∨ 7 < width ∨ n < 0 ∨ 0 < n / 256 ^ width.toNat) :
    Calls Tryz.prog 164 #[.int .i64 n, .int .i64 width] w fun e w' => e = .returned (.string (fx n width)) ∧ Below w.heap.size w w' := by
  rw [fx_no n width h]
  rcases (show width < 1 ∨ (1 ≤ width ∧ 7 < width) ∨ (1 ≤ width ∧ width ≤ 7 ∧ n < 0) ∨ (1 ≤ width ∧ width ≤ 7 ∧ 0 ≤ n ∧ 0 < n / 256 ^ width.toNat) from by omega) with h | ⟨h, h'⟩ | ⟨h, h', h''⟩ | ⟨h, h', h'', h5⟩
  · have hh : ¬ 1 ≤ width := by omega
    go_enter Tryz.func164, Tryz.ntmps164
    go_wp2
    go_ret
    exact ⟨rfl, Below.refl _ _⟩
  · have hh : ¬ width ≤ 7 := by omega
    go_enter Tryz.func164, Tryz.ntmps164
    go_wp2
    go_ret
    exact ⟨rfl, Below.refl _ _⟩
  · go_enter Tryz.func164, Tryz.ntmps164
    go_wp2
    go_ret
    exact ⟨rfl, Below.refl _ _⟩
  · obtain ⟨m, rfl⟩ : ∃ m : Nat, width = (m : Int) := ⟨width.toNat, by omega⟩
    have hsh : (n / 2 ^ (8 * m) != 0) = true := by
      rw [two_pow8]; simp at h5 ⊢; omega
    have hn0 : ¬ n < 0 := by omega
    clear h5
    go_enter Tryz.func164, Tryz.ntmps164
    go_wp2
    go_ret
    exact ⟨rfl, Below.refl _ _⟩
theorem impl_fx (n width : Int) (w : World) (hn : n ≤ 9223372036854775807) :
    Calls Tryz.prog 164 #[.int .i64 n, .int .i64 width] w fun e w' => e = .returned (.string (fx n width)) ∧ Below w.heap.size w w' := by
  by_cases h : width < 1 ∨ 7 < width ∨ n < 0 ∨ 0 < n / 256 ^ width.toNat
  · exact impl_fx_no n width w hn h
  · exact impl_fx_yes n width w (by omega) (by omega) (by omega) hn (by omega)
end Go.Proofs.YtajfmjgaaapjeaaGreatDoor
namespace Go.Proofs.YtajfmjgaaapjeaaGreatDoor
open Go.RowKit
open Num
set_option linter.unusedVariables false
/-- What a validator signs a digest with. -/
def sgn (n : Int) (d : ByteArray) : ByteArray := bif inIs n 1 99 then shortB (⟨#[4]⟩ ++ fx n 2 ++ d) else ⟨#[]⟩
theorem sgn_no {n : Int} {d : ByteArray} (h : inIs n 1 99 = false) : sgn n d = ⟨#[]⟩ := by unfold sgn; rw [h]; rfl
theorem sgn_yes {n : Int} {d : ByteArray} (h : inIs n 1 99 = true) : sgn n d = shortB (⟨#[4]⟩ ++ fx n 2 ++ d) := by unfold sgn; rw [h]; rfl
theorem sgn_size (n : Int) (d : ByteArray) : (sgn n d).size ≤ 8 := by
  cases h : inIs n 1 99 with
  | false => rw [sgn_no h]; show 0 ≤ 8; omega
  | true => rw [sgn_yes h, size_shortB]; omega
theorem fx_two (n : Int) : (fx n 2).size ≤ 2 := by
  unfold fx
  cases fxOk n 2 with
  | false => show 0 ≤ 2; omega
  | true =>
    show (lo n 2).toArray.size ≤ 2
    rw [List.size_toArray, length_lo]; exact Nat.le_refl _
set_option maxHeartbeats 800000 in
theorem spec_sgn (n : Int) (d : ByteArray) (w : World) (hd : d.size ≤ 1000000000000) :
    Calls Tryz.prog 86 #[.int .i64 n, .string d] w fun e w' => e = .returned (.string (sgn n d)) ∧ Below w.heap.size w w' := by
  have kI := fun W => spec_in n 1 99 W
  rcases hO : inIs n 1 99 with _ | _
  · rw [sgn_no hO]
    rw [hO] at kI
    clear hO
    go_enter Tryz.func86, Tryz.ntmps86
    go_wp2_with fail
    refine (kI _).mono ?_
    rintro e w1 ⟨rfl, rfl⟩
    go_wp2
    go_ret
    exact ⟨rfl, Below.refl _ _⟩
  · have HE : Hid (sgn n d = shortB (⟨#[4]⟩ ++ fx n 2 ++ d)) := sgn_yes hO
    have hn : n ≤ 9223372036854775807 := by have := (in_iff n 1 99).1 hO; omega
    rw [hO] at kI
    clear hO
    have kF := fun W => spec_fx n 2 W hn
    have hz := fx_two n
    generalize sgn n d = R at *
    generalize fx n 2 = q at *
    have e1 := ByteArray.size_append (a := ⟨#[4]⟩) (b := q)
    have e2 := ByteArray.size_append (a := ⟨#[4]⟩ ++ q) (b := d)
    have e0 : (⟨#[4]⟩ : ByteArray).size = 1 := rfl
    have m1 : ¬ 9223372036854775807 < (⟨#[4]⟩ : ByteArray).size + q.size := by omega
    have m1' : ¬ 9223372036854775807 < 1 + q.size := by omega
    have m2 : ¬ 9223372036854775807 < (⟨#[4]⟩ ++ q : ByteArray).size + d.size := by omega
    have hs : (⟨#[4]⟩ ++ q ++ d : ByteArray).size ≤ 1099511627776 := by omega
    clear e0 e1 e2 hz hd hn
    go_enter Tryz.func86, Tryz.ntmps86
    go_wp2_with fail
    refine (kI _).mono ?_
    rintro e w1 ⟨rfl, rfl⟩
    go_wp2_with fail
    refine (kF _).mono ?_
    rintro e w2 ⟨rfl, b2⟩
    have HB2 : Hid (Below w1.heap.size w1 w2) := b2
    clear b2
    go_wp2_with fail
    refine (spec_short _ w2 hs).mono ?_
    rintro e w3 ⟨rfl, b3⟩
    have HB3 : Hid (Below w1.heap.size w1 w3) := HB2.out.trans (b3.mono HB2.out.size)
    clear b3
    go_wp2
    go_ret
    exact ⟨by rw [HE.out]; rfl, HB3.out⟩
set_option maxHeartbeats 800000 in
theorem impl_sgn (n : Int) (d : ByteArray) (w : World) (hd : d.size ≤ 1000000000000) (hT : Tab w) :
    Calls Tryz.prog 154 #[.int .i64 n, .string d] w fun e w' => e = .returned (.string (sgn n d)) ∧ Below w.heap.size w w' := by
  have HT : Hid (Tab w) := hT
  clear hT
  have kI := fun W => impl_isV n W
  rcases hO : inIs n 1 99 with _ | _
  · rw [sgn_no hO]
    rw [hO] at kI
    clear hO
    go_enter Tryz.func154, Tryz.ntmps154
    go_wp2_with fail
    refine (kI _).mono ?_
    rintro e w1 ⟨rfl, rfl⟩
    go_wp2
    go_ret
    exact ⟨rfl, Below.refl _ _⟩
  · have HE : Hid (sgn n d = shortB (⟨#[4]⟩ ++ fx n 2 ++ d)) := sgn_yes hO
    have hn : n ≤ 9223372036854775807 := by have := (in_iff n 1 99).1 hO; omega
    rw [hO] at kI
    clear hO
    have kF := fun W => impl_fx n 2 W hn
    have hz := fx_two n
    generalize sgn n d = R at *
    generalize fx n 2 = q at *
    have e1 := ByteArray.size_append (a := ⟨#[4]⟩) (b := q)
    have e2 := ByteArray.size_append (a := ⟨#[4]⟩ ++ q) (b := d)
    have e0 : (⟨#[4]⟩ : ByteArray).size = 1 := rfl
    have m1 : ¬ 9223372036854775807 < (⟨#[4]⟩ : ByteArray).size + q.size := by omega
    have m1' : ¬ 9223372036854775807 < 1 + q.size := by omega
    have m2 : ¬ 9223372036854775807 < (⟨#[4]⟩ ++ q : ByteArray).size + d.size := by omega
    have hs : (⟨#[4]⟩ ++ q ++ d : ByteArray).size ≤ 1099511627776 := by omega
    clear e0 e1 e2 hz hd hn
    go_enter Tryz.func154, Tryz.ntmps154
    go_wp2_with fail
    refine (kI _).mono ?_
    rintro e w1 ⟨rfl, rfl⟩
    go_wp2_with fail
    refine (kF _).mono ?_
    rintro e w2 ⟨rfl, b2⟩
    have HB2 : Hid (Below w1.heap.size w1 w2) := b2
    clear b2
    go_wp2_with fail
    refine (impl_short _ w2 hs (HT.out.below HB2.out HT.out.pos)).mono ?_
    rintro e w3 ⟨rfl, b3⟩
    have HB3 : Hid (Below w1.heap.size w1 w3) := HB2.out.trans (b3.mono HB2.out.size)
    clear b3
    go_wp2
    go_ret
    exact ⟨by rw [HE.out]; rfl, HB3.out⟩
end Go.Proofs.YtajfmjgaaapjeaaGreatDoor
namespace Go.Proofs.YtajfmjgaaapjeaaGreatDoor
open Go.RowKit
open Num
set_option linter.unusedVariables false
set_option maxHeartbeats 1600000 in
theorem spec_dig (x : Vt) (w : World) :
    Calls Tryz.prog 87 #[tV x] w fun e w' => e = .returned (.string (dig x)) ∧ Below w.heap.size w w' := by
  have kO := fun W => spec_vok x W
  have HS : Hid (Five (w.alloc (.cells (tcs x) 98)) w.heap.size x) := five_new w x 98
  have HB : Hid (Below w.heap.size w (w.alloc (.cells (tcs x) 98))) := (Below.refl _ _).alloc (Nat.le_refl _) _
  have hz : w.heap.size < (w.alloc (.cells (tcs x) 98)).heap.size := by simp
  rcases hO : voB x with _ | _
  · rw [dig_no hO]
    rw [hO] at kO
    clear hO
    obtain ⟨h, r, s, i, v⟩ := x
    obtain ⟨x0, x1, x2, x3, x4⟩ := HS.out
    unfold tV at *
    unfold tcs at *
    simp only at kO x0 x1 x2 x3 x4 ⊢
    go_enter Tryz.func87, Tryz.ntmps87
    go_wp2_with fail
    refine (kO _).mono ?_
    rintro e w2 ⟨rfl, b2⟩
    go_wp2
    go_ret
    exact ⟨rfl, HB.out.trans (b2.mono HB.out.size)⟩
  · rw [dig_yes hO]
    rw [hO] at kO
    have hi := voB_size hO
    clear hO
    obtain ⟨h, r, s, i, v⟩ := x
    simp only at hi
    have HE : Hid (digB ⟨h, r, s, i, v⟩ = var h ++ var r ++ var s ++ i) := rfl
    generalize digB ⟨h, r, s, i, v⟩ = R at *
    have z1 := var_size h
    have z2 := var_size r
    have z3 := var_size s
    have e2 := ByteArray.size_append (a := var h) (b := var r)
    have e3 := ByteArray.size_append (a := var h ++ var r) (b := var s)
    have m2 : ¬ 9223372036854775807 < (var h).size + (var r).size := by omega
    have m3 : ¬ 9223372036854775807 < (var h ++ var r).size + (var s).size := by omega
    have m4 : ¬ 9223372036854775807 < (var h ++ var r ++ var s).size + i.size := by omega
    clear z1 z2 z3 e2 e3 hi
    obtain ⟨x0, x1, x2, x3, x4⟩ := HS.out
    unfold tV at *
    unfold tcs at *
    simp only at kO x0 x1 x2 x3 x4 ⊢
    go_enter Tryz.func87, Tryz.ntmps87
    go_wp2_with fail
    generalize w.alloc (Obj.cells #[Value.int .i64 h, Value.int .i64 r, Value.int .i64 s, Value.string i, Value.int .i64 v] 98) = w1 at *
    refine (kO _).mono ?_
    rintro e w2 ⟨rfl, b2⟩
    have HB2 : Hid (Below w1.heap.size w1 w2) := b2
    clear b2 x0 x1 x2 x3 x4 kO
    obtain ⟨x0, x1, x2, x3, x4⟩ := HS.out.below HB2.out hz
    simp only at x0 x1 x2 x3 x4
    have hne := bel_some w2
    have c0 := fun p : Bel w2 => p.cell x0
    have c1 := fun p : Bel w2 => p.cell x1
    have c2 := fun p : Bel w2 => p.cell x2
    have c3 := fun p : Bel w2 => p.cell x3
    clear x0 x1 x2 x3 x4
    go_wp2_with fail
    refine wp_region_below (by kernel_rfl) (by kernel_rfl) ?_
    repeat (go_big_quiet_step ((go_at_call 83; exact bel_of (spec_var _ _))))
    refine wpQuiet_nil ?_
    intro _ hw'
    obtain ⟨pq, hw''⟩ := hw'
    subst hw''
    have HB3 : Hid (Below w1.heap.size w1 pq.W) := HB2.out.trans (pq.h.mono HB2.out.size)
    go_wp2
    go_ret
    exact ⟨by rw [HE.out]; rfl, HB.out.trans (HB3.out.mono HB.out.size)⟩
set_option maxHeartbeats 1600000 in
theorem impl_dig (x : Vt) (w : World) :
    Calls Tryz.prog 155 #[tV x] w fun e w' => e = .returned (.string (dig x)) ∧ Below w.heap.size w w' := by
  have kO := fun W => impl_vok x W
  have HS : Hid (Five (w.alloc (.cells (tcs x) 98)) w.heap.size x) := five_new w x 98
  have HB : Hid (Below w.heap.size w (w.alloc (.cells (tcs x) 98))) := (Below.refl _ _).alloc (Nat.le_refl _) _
  have hz : w.heap.size < (w.alloc (.cells (tcs x) 98)).heap.size := by simp
  rcases hO : voB x with _ | _
  · rw [dig_no hO]
    rw [hO] at kO
    clear hO
    obtain ⟨h, r, s, i, v⟩ := x
    obtain ⟨x0, x1, x2, x3, x4⟩ := HS.out
    unfold tV at *
    unfold tcs at *
    simp only at kO x0 x1 x2 x3 x4 ⊢
    go_enter Tryz.func155, Tryz.ntmps155
    go_wp2_with fail
    refine (kO _).mono ?_
    rintro e w2 ⟨rfl, b2⟩
    go_wp2
    go_ret
    exact ⟨rfl, HB.out.trans (b2.mono HB.out.size)⟩
  · rw [dig_yes hO]
    rw [hO] at kO
    have hi := voB_size hO
    clear hO
    obtain ⟨h, r, s, i, v⟩ := x
    simp only at hi
    have HE : Hid (digB ⟨h, r, s, i, v⟩ = var h ++ var r ++ var s ++ i) := rfl
    generalize digB ⟨h, r, s, i, v⟩ = R at *
    have z1 := var_size h
    have z2 := var_size r
    have z3 := var_size s
    have e2 := ByteArray.size_append (a := var h) (b := var r)
    have e3 := ByteArray.size_append (a := var h ++ var r) (b := var s)
    have m2 : ¬ 9223372036854775807 < (var h).size + (var r).size := by omega
    have m3 : ¬ 9223372036854775807 < (var h ++ var r).size + (var s).size := by omega
    have m4 : ¬ 9223372036854775807 < (var h ++ var r ++ var s).size + i.size := by omega
    clear z1 z2 z3 e2 e3 hi
    obtain ⟨x0, x1, x2, x3, x4⟩ := HS.out
    unfold tV at *
    unfold tcs at *
    simp only at kO x0 x1 x2 x3 x4 ⊢
    go_enter Tryz.func155, Tryz.ntmps155
    go_wp2_with fail
    generalize w.alloc (Obj.cells #[Value.int .i64 h, Value.int .i64 r, Value.int .i64 s, Value.string i, Value.int .i64 v] 98) = w1 at *
    refine (kO _).mono ?_
    rintro e w2 ⟨rfl, b2⟩
    have HB2 : Hid (Below w1.heap.size w1 w2) := b2
    clear b2 x0 x1 x2 x3 x4 kO
    obtain ⟨x0, x1, x2, x3, x4⟩ := HS.out.below HB2.out hz
    simp only at x0 x1 x2 x3 x4
    have hne := bel_some w2
    have c0 := fun p : Bel w2 => p.cell x0
    have c1 := fun p : Bel w2 => p.cell x1
    have c2 := fun p : Bel w2 => p.cell x2
    have c3 := fun p : Bel w2 => p.cell x3
    clear x0 x1 x2 x3 x4
    go_wp2_with fail
    refine wp_region_below (by kernel_rfl) (by kernel_rfl) ?_
    repeat (go_big_quiet_step ((go_at_call 113; exact bel_of (impl_var _ _))))
    refine wpQuiet_nil ?_
    intro _ hw'
    obtain ⟨pq, hw''⟩ := hw'
    subst hw''
    have HB3 : Hid (Below w1.heap.size w1 pq.W) := HB2.out.trans (pq.h.mono HB2.out.size)
    go_wp2
    go_ret
    exact ⟨by rw [HE.out]; rfl, HB.out.trans (HB3.out.mono HB.out.size)⟩
end Go.Proofs.YtajfmjgaaapjeaaGreatDoor
