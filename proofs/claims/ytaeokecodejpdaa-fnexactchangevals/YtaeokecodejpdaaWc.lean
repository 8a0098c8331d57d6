/- The walk of the exact law of ChangeVals: it answers true, old memory stays. Conditions: rows that a machine can hold. -/
import Derived.Test.YtaeokecodejpdaaCh1
import Derived.Test.YtaeokecodejpdaaCh2
import Derived.Test.YtaeokecodejpdaaMh
import Derived.Test.YtaeokecodejpdaaLv
namespace Go.Proofs.Ytaeokecodejpdaa
open Go.RowKit
open Num
set_option linter.unusedVariables false
theorem chV_len (l ch : List V) : (chV l ch).1.length ≤ l.length + 7 := by
  unfold chV
  cases vOk l
  · simp
  · cases spf l ch with
    | none => simp
    | some out =>
      simp only [cond_true]
      cases h : vOk out
      · simp
      · have := len_ok h
        simp only [cond_true]; omega
theorem room_other {w w' : World} {b o n g : Nat} (h : Room w b o n) (hg : w.grownBy w' (some g)) (hne : b ≠ g) : Room w' b o n := fun j hj => by
  obtain ⟨h1, h2⟩ := h j hj
  obtain ⟨u, hu⟩ := Option.isSome_iff_exists.1 h1
  have hlt := World.block_lt_of_cell? w _ hu
  have hbl := hg.block b hlt (fun e => hne (by injection e))
  exact ⟨by rw [World.cell?_of_block (w := w) (a := ⟨b, o + j, none⟩) hbl]; exact h1, by rw [World.frozen?_of_block (w := w) (a := ⟨b, o + j, none⟩) hbl]; exact h2⟩
/-- Nothing was written, or one row. -/
def MK (w w' : World) (b n : Nat) : Prop := w' = w ∨ (0 < n ∧ w.grownBy w' (some b))
theorem MK.below {w w' c : World} {b n B : Nat} (h : MK w w' b n) (hb : Below B c w) (hB : B ≤ b) (hs : B ≤ w.heap.size) : Below B c w' := by
  rcases h with rfl | ⟨_, h⟩
  · exact hb
  · exact hb.grown h hs (fun k e => by injection e; omega)
theorem MK.own {w w' : World} {b n B : Nat} {v : Value} {l : List V} (h : MK w w' b n) (ho : OwnV w B v l) (hB : 0 < n → b < B) : OwnV w' B v l := by
  rcases h with rfl | ⟨hn, h⟩
  · exact ho
  · exact own_gr ho h (hB hn)
theorem MK.room {w w' : World} {b n b2 o2 m : Nat} (h : MK w w' b n) (hr : Room w b2 o2 m) (hB : 0 < n → b2 ≠ b) : Room w' b2 o2 m := by
  rcases h with rfl | ⟨hn, h⟩
  · exact hr
  · exact room_other hr h (hB hn)
theorem mark_at (b cap : Nat) (l : List V) (k : Nat) (w : World) (hr : Room w b 0 (l.length * 2)) (hlen : l.length ≤ 1099511627776) (hk : k ≤ 1099511627776) :
    Calls Try.prog 9 #[.slice (some ⟨b, 0, none⟩) l.length cap, .int .i64 (k : Int)] w fun e w' => e = .returned (.int .i64 ((k : Int) + 2 * (l.length : Int))) ∧ MK w w' b l.length := by
  rcases Nat.eq_zero_or_pos l.length with h | h
  · rw [h]
    refine (mark_nil _ cap k w).mono ?_
    rintro e w' ⟨rfl, rfl⟩
    exact ⟨by simp, .inl rfl⟩
  · refine (mark_any b 0 cap l k w hr hlen hk).mono ?_
    rintro e w' ⟨rfl, _, _, h3⟩
    exact ⟨rfl, .inr ⟨h, h3⟩⟩
set_option maxHeartbeats 1600000 in
theorem w_change (a : Option Addr) (l : List V) (cap : Nat) (a' : Option Addr) (ch : List V) (cap' : Nat) (w : World) (hl : VO w a l) (hlen : l.length ≤ 9223372036854775807) (hi : VO w a' ch) (hleni : ch.length ≤ 9223372036854775807) :
    Calls Try.prog 3 #[.slice a l.length cap, .slice a' ch.length cap'] w fun e w' => e = .returned (.bool true) ∧ Below w.heap.size w w' := by
  have HL : Hid (VO w a l) := hl
  have HI : Hid (VO w a' ch) := hi
  clear hl hi
  have kS := sz_any a l.length cap 1048576 w hlen (by omega) (by omega)
  by_cases hbig : (1048576 : Int) < (l.length : Int)
  · rw [if_pos hbig] at kS
    go_enter Try.func3, Try.ntmps3
    go_wp2_with fail
    refine kS.mono ?_
    rintro e w1 ⟨rfl, rfl⟩
    go_wp2
    go_ret
    exact ⟨rfl, Below.refl _ _⟩
  rw [if_neg hbig] at kS
  have hz : ¬ (1048576 : Int) - (l.length : Int) < 0 := by omega
  have kS2 := sz_any a' ch.length cap' (1048576 - (l.length : Int)) w hleni (by omega) (by omega)
  by_cases hbig2 : (1048576 : Int) - (l.length : Int) < (ch.length : Int)
  · rw [if_pos hbig2] at kS2
    go_enter Try.func3, Try.ntmps3
    go_wp2_with fail
    refine kS.mono ?_
    rintro e w1 ⟨rfl, rfl⟩
    go_wp2_with fail
    refine kS2.mono ?_
    rintro e w1 ⟨rfl, rfl⟩
    go_wp2
    go_ret
    exact ⟨rfl, Below.refl _ _⟩
  rw [if_neg hbig2] at kS2
  have hlen' : l.length ≤ 1048576 := by omega
  have hleni' : ch.length ≤ 1048576 := by omega
  have hsum : l.length + ch.length ≤ 1048576 := by omega
  have hz2 : ¬ (1048576 : Int) - (l.length : Int) - (ch.length : Int) < 0 := by omega
  have hrl := chV_len l ch
  have kSp := fun b1 o1 b2 o2 c1 c2 W h1 h2 => spec_change b1 o1 b2 o2 c1 c2 l ch W h1 h2 hsum
  have kIm := fun b1 o1 b2 o2 c1 c2 W h1 h2 => impl_change b1 o1 b2 o2 c1 c2 l ch W h1 h2 hsum
  have KSp : Hid (_) := kSp
  have KIm : Hid (_) := kIm
  clear kSp kIm
  generalize (chV l ch).1 = r at *
  generalize (chV l ch).2 = t at *
  go_enter Try.func3, Try.ntmps3
  go_wp2_with fail
  refine kS.mono ?_
  rintro e w1 ⟨rfl, rfl⟩
  go_wp2_with fail
  refine kS2.mono ?_
  rintro e w2 ⟨rfl, rfl⟩
  clear kS kS2
  go_wp2_with fail
  refine (toValS_any a l cap w2 HL.out hlen').mono ?_
  rintro e w3 ⟨rfl, v3, _, b3⟩
  have V3 : Hid (VAt w3 w2.heap.size 0 l) := v3
  have B3 : Hid (Below w2.heap.size w2 w3) := b3
  clear v3 b3
  go_wp2_with fail
  refine (toValS_any a' ch cap' w3 (HI.out.below B3.out) hleni').mono ?_
  rintro e w4 ⟨rfl, v4, _, b4⟩
  have V4 : Hid (VAt w4 w3.heap.size 0 ch) := v4
  have V3' : Hid (VAt w4 w2.heap.size 0 l) := V3.out.below b4
  have B4 : Hid (Below w2.heap.size w2 w4) := B3.out.trans (b4.mono B3.out.size)
  clear v4 b4 V3 B3
  go_wp2_with fail
  refine (KSp.out _ _ _ _ _ _ _ V3'.out V4.out).mono ?_
  rintro e w5 ⟨v5, rfl, o5, b5⟩
  obtain ⟨a5, cap5, rfl, f5, _, _⟩ := OwnV.fr o5.out
  have HF5 : Hid (VO w5 a5 r) := f5.o
  have B5 : Hid (Below w2.heap.size w2 w5) := B4.out.trans (b5.out.mono B4.out.size)
  clear f5 o5 b5 V3' V4 B4
  go_wp2_with fail
  refine (toValS_any a l cap w5 (HL.out.below B5.out) hlen').mono ?_
  rintro e w6 ⟨rfl, v6, r6, b6⟩
  have V6 : Hid (VAt w6 w5.heap.size 0 l ∧ Room w6 w5.heap.size 0 (l.length * 2)) := ⟨v6, r6⟩
  have C6 : Hid (Below w5.heap.size w5 w6) := b6
  clear v6 r6 b6
  go_wp2_with fail
  refine (toValS_any a' ch cap' w6 (HI.out.below (B5.out.trans (C6.out.mono B5.out.size))) hleni').mono ?_
  rintro e w7 ⟨rfl, v7, r7, b7⟩
  have V7 : Hid (VAt w7 w6.heap.size 0 ch ∧ Room w7 w6.heap.size 0 (ch.length * 2)) := ⟨v7, r7⟩
  have V7' : Hid (VAt w7 w5.heap.size 0 l ∧ Room w7 w5.heap.size 0 (l.length * 2)) := ⟨V6.out.1.below b7, V6.out.2.below b7⟩
  have C7 : Hid (Below w5.heap.size w5 w7) := C6.out.trans (b7.mono C6.out.size)
  have hlt6 : 0 < l.length → w5.heap.size < w6.heap.size := fun h => World.block_lt_of_cell? w6 _ (V6.out.1 0 h).1
  have hlt7 : 0 < ch.length → w6.heap.size < w7.heap.size := fun h => World.block_lt_of_cell? w7 _ (V7.out.1 0 h).1
  have hle6 : w5.heap.size ≤ w6.heap.size := C6.out.size
  have hle7 : w6.heap.size ≤ w7.heap.size := b7.size
  have LT : Hid ((0 < l.length → w5.heap.size < w6.heap.size) ∧ (0 < ch.length → w6.heap.size < w7.heap.size)) := ⟨hlt6, hlt7⟩
  clear v7 r7 b7 V6 C6 hlt6 hlt7
  go_wp2_with fail
  refine (KIm.out _ _ _ _ _ _ _ V7'.out.1 V7.out.1).mono ?_
  rintro e w8 ⟨v8, rfl, o8, b8⟩
  obtain ⟨a8, cap8, rfl, f8, _, _⟩ := OwnV.fr o8.out
  have HV8 : Hid (VO w8 a8 r) := f8.o
  have C8 : Hid (Below w5.heap.size w5 w8) := C7.out.trans (b8.out.mono C7.out.size)
  have V8 : Hid (VAt w8 w6.heap.size 0 ch ∧ Room w8 w6.heap.size 0 (ch.length * 2)) := ⟨V7.out.1.below b8.out, V7.out.2.below b8.out⟩
  have V8' : Hid (VAt w8 w5.heap.size 0 l ∧ Room w8 w5.heap.size 0 (l.length * 2)) := ⟨V7'.out.1.below b8.out, V7'.out.2.below b8.out⟩
  clear f8 b8 V7 V7' C7
  go_wp2_with fail
  refine (eqValS_any a8 a5 r r cap8 cap5 w8 HV8.out (HF5.out.below C8.out) (by omega) (by omega)).mono ?_
  rintro e w9 ⟨rfl, b9⟩
  rw [decide_eq_true rfl]
  have D9 : Hid (Below w8.heap.size w8 w9) := b9
  clear b9
  go_wp2_with fail
  refine (toValS_any a l cap w9 (HL.out.below (B5.out.trans ((C8.out.trans (D9.out.mono C8.out.size)).mono B5.out.size))) hlen').mono ?_
  rintro e w10 ⟨rfl, v10, _, b10⟩
  have D10 : Hid (Below w8.heap.size w8 w10) := D9.out.trans (b10.mono D9.out.size)
  have X10 : Hid (VAt w10 w9.heap.size 0 l) := v10
  clear b10 v10 D9
  go_wp2_with fail
  refine (eqValS_any _ _ l l _ _ w10 (V8'.out.1.below D10.out).o X10.out.o (by omega) (by omega)).mono ?_
  rintro e w11 ⟨rfl, b11⟩
  rw [decide_eq_true rfl]
  have D11 : Hid (Below w8.heap.size w8 w11) := D10.out.trans (b11.mono D10.out.size)
  clear b11 D10 X10
  go_wp2_with fail
  refine (toValS_any a' ch cap' w11 (HI.out.below (B5.out.trans ((C8.out.trans (D11.out.mono C8.out.size)).mono B5.out.size))) hleni').mono ?_
  rintro e w12 ⟨rfl, v12, _, b12⟩
  have D12 : Hid (Below w8.heap.size w8 w12) := D11.out.trans (b12.mono D11.out.size)
  have X12 : Hid (VAt w12 w11.heap.size 0 ch) := v12
  clear b12 v12 D11
  go_wp2_with fail
  refine (eqValS_any _ _ ch ch _ _ w12 (V8.out.1.below D12.out).o X12.out.o (by omega) (by omega)).mono ?_
  rintro e w13 ⟨rfl, b13⟩
  rw [decide_eq_true rfl]
  have D13 : Hid (Below w8.heap.size w8 w13) := D12.out.trans (b13.mono D12.out.size)
  have O13 : Hid (OwnV w13 w7.heap.size (.slice a8 r.length cap8) r) := own_below o8.out D13.out
  have R13 : Hid (Room w13 w6.heap.size 0 (ch.length * 2)) := V8.out.2.below D13.out
  have R13' : Hid (Room w13 w5.heap.size 0 (l.length * 2)) := V8'.out.2.below D13.out
  have C13 : Hid (Below w5.heap.size w5 w13) := C8.out.trans (D13.out.mono C8.out.size)
  clear b13 D12 X12 D13 o8 V8 V8' C8 HV8
  go_wp2_with fail
  refine (mark_at w5.heap.size l.length l 1 w13 R13'.out (by omega) (by omega)).mono ?_
  rintro e w14 ⟨rfl, m14⟩
  have O14 : Hid (OwnV w14 w7.heap.size (.slice a8 r.length cap8) r) := m14.own O13.out (fun h => by have := LT.out.1 h; omega)
  have R14 : Hid (Room w14 w6.heap.size 0 (ch.length * 2)) := m14.room R13.out (fun h => by have := LT.out.1 h; omega)
  have C14 : Hid (Below w5.heap.size w5 w14) := m14.below C13.out (Nat.le_refl _) C13.out.size
  clear m14 O13 R13 R13' C13
  have kM := mark_at w6.heap.size ch.length ch (1 + 2 * l.length) w14 R14.out (by omega) (by omega)
  rw [show ((1 + 2 * l.length : Nat) : Int) = 1 + 2 * (l.length : Int) from by omega] at kM
  go_wp2_with fail
  refine kM.mono ?_
  clear kM
  rintro e w15 ⟨rfl, m15⟩
  have O15 : Hid (OwnV w15 w7.heap.size (.slice a8 r.length cap8) r) := m15.own O14.out (fun h => LT.out.2 h)
  have C15 : Hid (Below w5.heap.size w5 w15) := m15.below C14.out hle6 C14.out.size
  clear m15 O14 R14 C14
  have hk0 : ¬ (1 + 2 * (l.length : Int) + 2 * (ch.length : Int) < 0) := by omega
  obtain ⟨a9, cap9, e9, f9, _, _⟩ := OwnV.fr O15.out
  simp only [Value.slice.injEq, true_and] at e9
  obtain ⟨rfl, rfl⟩ := e9
  have F15 : Hid (FrV w15 w7.heap.size a8 r) := f9
  clear f9 O15
  go_wp2_with fail
  refine (eqValS_any a8 a5 r r cap8 cap5 w15 F15.out.o (HF5.out.below C15.out) (by omega) (by omega)).mono ?_
  rintro e w16 ⟨rfl, b16⟩
  rw [decide_eq_true rfl]
  have F16 : Hid (FrV w16 w7.heap.size a8 r) := F15.out.below b16
  have C16 : Hid (Below w5.heap.size w5 w16) := C15.out.trans (b16.mono C15.out.size)
  clear b16 F15 C15
  go_wp2_with fail
  refine (mark_fr a8 cap8 r 1 w7.heap.size w16 F16.out (by omega) (by omega)).mono ?_
  rintro e w17 ⟨rfl, f17, g, hg, hgr⟩
  have C17 : Hid (Below w5.heap.size w5 w17) := C16.out.grown hgr C16.out.size (fun k e => by injection e; omega)
  have F17 : Hid (FrV w17 w7.heap.size a8 (marks 1 r.length)) := f17
  clear f17 hgr F16 C16
  go_wp2_with fail
  refine (held_any a8 cap8 r.length 1 w17 F17.out.o (by omega) (by omega)).mono ?_
  rintro e w18 ⟨rfl, rfl⟩
  go_wp2_with fail
  refine (toValS_any a l cap w18 (HL.out.below (B5.out.trans (C17.out.mono B5.out.size))) hlen').mono ?_
  rintro e w19 ⟨rfl, v19, _, b19⟩
  have V19 : Hid (VAt w19 w18.heap.size 0 l) := v19
  have C19 : Hid (Below w5.heap.size w5 w19) := C17.out.trans (b19.mono C17.out.size)
  have F19 : Hid (FrV w19 w7.heap.size a8 (marks 1 r.length)) := F17.out.below b19
  clear v19 b19 C17 F17
  go_wp2_with fail
  refine (toValS_any a' ch cap' w19 (HI.out.below (B5.out.trans (C19.out.mono B5.out.size))) hleni').mono ?_
  rintro e w20 ⟨rfl, v20, _, b20⟩
  have V20 : Hid (VAt w20 w19.heap.size 0 ch) := v20
  have V20' : Hid (VAt w20 w18.heap.size 0 l) := V19.out.below b20
  have C20 : Hid (Below w5.heap.size w5 w20) := C19.out.trans (b20.mono C19.out.size)
  have F20 : Hid (FrV w20 w7.heap.size a8 (marks 1 r.length)) := F19.out.below b20
  clear v20 b20 C19 F19 V19
  go_wp2_with fail
  refine (KIm.out _ _ _ _ _ _ _ V20'.out V20.out).mono ?_
  rintro e w21 ⟨v21, rfl, o21, b21⟩
  obtain ⟨a21, cap21, rfl, f21, _, _⟩ := OwnV.fr o21.out
  have HV21 : Hid (VO w21 a21 r) := f21.o
  have C21 : Hid (Below w5.heap.size w5 w21) := C20.out.trans (b21.out.mono C20.out.size)
  have F21 : Hid (FrV w21 w7.heap.size a8 (marks 1 r.length)) := F20.out.below b21.out
  clear f21 o21 b21 C20 F20 V20 V20'
  go_wp2_with fail
  refine (eqValS_any a21 a5 r r cap21 cap5 w21 HV21.out (HF5.out.below C21.out) (by omega) (by omega)).mono ?_
  rintro e w22 ⟨rfl, b22⟩
  rw [decide_eq_true rfl]
  have C22 : Hid (Below w5.heap.size w5 w22) := C21.out.trans (b22.mono C21.out.size)
  have F22 : Hid (FrV w22 w7.heap.size a8 (marks 1 r.length)) := F21.out.below b22
  clear b22 C21 F21 HV21
  go_wp2_with fail
  refine (held_any a8 cap8 r.length 1 w22 F22.out.o (by omega) (by omega)).mono ?_
  rintro e w23 ⟨rfl, rfl⟩
  go_wp2
  go_ret
  exact ⟨rfl, B5.out.trans (C22.out.mono B5.out.size)⟩
end Go.Proofs.Ytaeokecodejpdaa
