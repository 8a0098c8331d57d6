/- FnVals at every code of at most 2 to the 20 bytes: true; old memory stays. Conditions: the table lies where it should. -/
import Derived.Test.YtaeokecodejpdaaDoorG9
import Derived.Test.YtaeokecodejpdaaDoorCh1
import Derived.Test.YtaeokecodejpdaaDoorCh2
import Derived.Test.YtaeokecodejpdaaDoorRd2
import Derived.Test.YtaeokecodejpdaaDoorPr
import Derived.Test.YtaeokecodejpdaaDoorG11
import Derived.Deep.DeepCutAuto
import Derived.Deep.CutBlock
namespace Go.Proofs.YtaeokecodejpdaaDoor
open Go.RowKit
open Num
set_option linter.unusedVariables false
set_option maxHeartbeats 6400000 in
set_option maxRecDepth 100000 in
theorem fn_vals (a : Option Addr) (L : List UInt8) (cap : Nat) (w : World) (hl : CodeAt w w.heap.size a L) (hT : Tab w) (hlen : L.length ≤ 1048576) :
    Calls Tryd.prog 3 #[.slice a L.length cap] w fun e w' => e = .returned (.bool true) ∧ Below w.heap.size w w' := by
  obtain ⟨i0, hinf, hz0, hz1, hz2⟩ := info3f
  have HL : Hid (CodeAt w w.heap.size a L) := hl
  have HT : Hid (Tab w) := hT
  have kB := big_any a L.length cap w (by omega)
  rw [decide_eq_false (by omega)] at kB
  clear hl hT
  go_enter Tryd.func3, Tryd.ntmps3
  go_wp2_with fail
  refine kB.mono ?_
  clear kB
  rintro e w0 ⟨rfl, rfl⟩
  go_wp2_with fail
  refine (draw_change a L cap w0 HL.out hlen).mono ?_
  rintro e w1 ⟨v, u, l, x, rfl, HO1, HDr, HX1, HF, HB1⟩
  obtain ⟨b1, c1, rfl, V1⟩ := own_at HO1.out HF.out.2.1
  obtain ⟨b2, c2, rfl, V2⟩ := own_at HX1.out HF.out.2.2
  have VL1 : Hid (VAt w1 b1 0 l) := V1
  have VX1 : Hid (VAt w1 b2 0 x) := V2
  have hl8 : l.length ≤ 8 := HDr.out.1
  have hx3 : x.length ≤ 3 := HF.out.1
  clear V1 V2 HO1 HX1 HF HDr
  have hrl := chV_len l x
  have KIm := impl_change b1 0 b2 0 c1 c2 l x w1 VL1.out VX1.out (by omega)
  have kSp : ∀ W : World, VAt W b1 0 l → VAt W b2 0 x → _ := fun W h1 h2 => spec_change b1 0 b2 0 c1 c2 l x W h1 h2 (by omega)
  have KSp : Hid (_) := kSp
  have HTV : Hid ((chV l x).2 = true → vOk (chV l x).1 = true) := chV_told
  have HTF : Hid ((chV l x).2 = false → (chV l x).1 = l) := chV_untold
  clear kSp
  generalize (chV l x).1 = r at *
  generalize (chV l x).2 = t at *
  obtain ⟨ok, hok⟩ : ∃ b, vOk l = b := ⟨_, rfl⟩
  have HOK : Hid (vOk l = ok) := hok
  obtain ⟨m0, hm0, hmo⟩ := read_ok l ok hok
  have HMO : Hid (ok = true → m0 = l) := hmo
  have kR : ∀ W : World, _ := fun W => impl_read (showV l) W (by have := showV_size l; omega)
  rw [hm0] at kR
  have KR : Hid (_) := kR
  have kOk : ∀ W : World, VAt W b1 0 l → _ := fun W h => spec_ok (some ⟨b1, 0, none⟩) l c1 W h.o (by omega)
  rw [hok] at kOk
  have KOk : Hid (_) := kOk
  clear hm0 hmo hok kR kOk
  go_wp2_with fail
  refine KIm.mono ?_
  clear KIm
  rintro e w2 ⟨y, rfl, HY2, B2⟩
  obtain ⟨ay, cy, rfl, vy, _, _⟩ := OwnV.o HY2.out
  have VY2 : Hid (VO w2 ay r) := vy
  clear vy HY2
  go_wp2_with fail
  refine (KSp.out w2 (VL1.out.below B2.out) (VX1.out.below B2.out)).mono ?_
  clear KSp
  rintro e w3 ⟨z, rfl, HZ3, B3⟩
  obtain ⟨az, cz, rfl, vz, _, _⟩ := OwnV.o HZ3.out
  have VZ3 : Hid (VO w3 az r) := vz
  have VY3 : Hid (VO w3 ay r) := VY2.out.below B3.out
  have VL3 : Hid (VAt w3 b1 0 l) := (VL1.out.below B2.out).below B3.out
  have BB3 : Hid (Below w0.heap.size w0 w3) := (HB1.out.trans (B2.out.mono HB1.out.size)).trans (B3.out.mono (HB1.out.trans (B2.out.mono HB1.out.size)).size)
  clear vz HZ3 VL1 VX1 VY2 B2 B3 HB1
  go_upto_region 6 with fail
  go_cut [56] (fun s wx => s = .bool false ∧ Hid (Below w3.heap.size w3 wx))
  case first =>
    have kA := same_any ay az r cy cz w3 VY3.out VZ3.out (by omega)
    cases t
    · have hr : r = l := HTF.out rfl
      have kC : ∀ W : World, VO W ay r → VAt W b1 0 l → Calls Tryd.prog 8 #[.slice ay r.length cy, .slice (some ⟨b1, 0, none⟩) l.length c1] W fun e w' => e = .returned (.bool true) ∧ Below W.heap.size W w' := fun W h1 h2 => by
        have := same_any ay (some ⟨b1, 0, none⟩) l cy c1 W (hr ▸ h1) h2.o (by omega)
        rw [hr]; exact this
      clear hr
      go_wp2_with fail
      refine kA.mono ?_
      clear kA
      rintro e w4 ⟨rfl, b4⟩
      go_wp2_with fail
      refine (kC w4 (VY3.out.below b4) (VL3.out.below b4)).mono ?_
      clear kC
      rintro e w5 ⟨rfl, b5⟩
      have HB5 : Hid (Below w3.heap.size w3 w5) := b4.trans (b5.mono b4.size)
      clear b4 b5
      go_wp2_with fail
      go_meet
      exact ⟨rfl, HB5⟩
    · go_wp2_with fail
      refine kA.mono ?_
      clear kA
      rintro e w4 ⟨rfl, b4⟩
      have HB5 : Hid (Below w3.heap.size w3 w4) := b4
      clear b4
      go_wp2_with fail
      go_meet
      exact ⟨rfl, HB5⟩
  case rest =>
  obtain ⟨rfl, HB4⟩ := hcut
  rename World => w4
  have VY4 : Hid (VO w4 ay r) := VY3.out.below HB4.out
  have VL4 : Hid (VAt w4 b1 0 l) := VL3.out.below HB4.out
  have BB4 : Hid (Below w0.heap.size w0 w4) := BB3.out.trans (HB4.out.mono BB3.out.size)
  clear VZ3 VY3 VL3 BB3 HB4 HTF
  go_wp2_with fail
  refine (impl_show _ l _ w4 VL4.out.o (by omega)).mono ?_
  rintro e w5 ⟨rfl, b5⟩
  go_wp2_with fail
  refine (KR.out w5).mono ?_
  clear KR
  rintro e w6 ⟨m, rfl, HM, b6⟩
  obtain ⟨am, cm, rfl, vm, _, _⟩ := OwnV.o HM
  have VM6 : Hid (VO w6 am m0) := vm
  have b46 := b5.trans (b6.mono b5.size)
  have VY6 : Hid (VO w6 ay r) := VY4.out.below b46
  have VL6 : Hid (VAt w6 b1 0 l) := VL4.out.below b46
  have BB6 : Hid (Below w0.heap.size w0 w6) := BB4.out.trans (b46.mono BB4.out.size)
  clear b5 b6 b46 HM vm VY4 VL4 BB4
  go_upto_region 9 with fail
  go_cut [75] (fun s wx => s = .bool false ∧ Hid (Below w6.heap.size w6 wx))
  case first =>
    have kA := KOk.out w6 VL6.out
    cases ok
    · go_wp2_with fail
      refine kA.mono ?_
      clear kA
      rintro e w7 ⟨rfl, b7⟩
      have HB7 : Hid (Below w6.heap.size w6 w7) := b7
      clear b7
      go_wp2_with fail
      go_meet
      exact ⟨rfl, HB7⟩
    · have hm : m0 = l := HMO.out rfl
      have kC : ∀ W : World, VO W am m0 → VAt W b1 0 l → Calls Tryd.prog 8 #[.slice am m0.length cm, .slice (some ⟨b1, 0, none⟩) l.length c1] W fun e w' => e = .returned (.bool true) ∧ Below W.heap.size W w' := fun W h1 h2 => by
        have := same_any am (some ⟨b1, 0, none⟩) l cm c1 W (hm ▸ h1) h2.o (by omega)
        rw [hm]; exact this
      clear hm
      go_wp2_with fail
      refine kA.mono ?_
      clear kA
      rintro e w7 ⟨rfl, b7⟩
      go_wp2_with fail
      refine (kC w7 (VM6.out.below b7) (VL6.out.below b7)).mono ?_
      clear kC
      rintro e w8 ⟨rfl, b8⟩
      have HB8 : Hid (Below w6.heap.size w6 w8) := b7.trans (b8.mono b7.size)
      clear b7 b8
      go_wp2_with fail
      go_meet
      exact ⟨rfl, HB8⟩
  case rest =>
  obtain ⟨rfl, HB7⟩ := hcut
  rename World => w7
  have VY7 : Hid (VO w7 ay r) := VY6.out.below HB7.out
  have VL7 : Hid (VAt w7 b1 0 l) := VL6.out.below HB7.out
  have BB7 : Hid (Below w0.heap.size w0 w7) := BB6.out.trans (HB7.out.mono BB6.out.size)
  clear VM6 VY6 VL6 BB6 HB7 HMO
  go_wp2_with fail
  refine (draw_read a L cap w7 (code_below HL.out BB7.out) hlen).mono ?_
  rintro e w8 ⟨s, rfl, HS, HB8⟩
  have HSH : Hid ((readV s).2 = true → showV (readV s).1 = s) := read_shows
  have h7 := readV_len s
  have kI := impl_read s w8 (by have := HS.out; omega)
  have kS := fun W : World => spec_read s W (by have := HS.out; omega)
  generalize (readV s).1 = rr at *
  generalize (readV s).2 = f at *
  have KS : Hid (_) := kS
  clear kS
  go_wp2_with fail
  refine kI.mono ?_
  clear kI
  rintro e w9 ⟨q, rfl, HQ, b9⟩
  obtain ⟨aq, cq, rfl, vq, _, _⟩ := OwnV.o HQ
  have VQ9 : Hid (VO w9 aq rr) := vq
  clear vq HQ
  go_wp2_with fail
  refine (KS.out w9).mono ?_
  clear KS
  rintro e w10 ⟨q2, rfl, HQ2, b10⟩
  have VQ10 : Hid (VO w10 aq rr) := VQ9.out.below b10
  have b710 := (HB8.out.trans (b9.mono HB8.out.size)).trans (b10.mono (HB8.out.trans (b9.mono HB8.out.size)).size)
  have VY10 : Hid (VO w10 ay r) := VY7.out.below b710
  have VL10 : Hid (VAt w10 b1 0 l) := VL7.out.below b710
  have BB10 : Hid (Below w0.heap.size w0 w10) := BB7.out.trans (b710.mono BB7.out.size)
  clear HQ2 VQ9 HB8 b9 b10 b710 VY7 VL7 BB7
  go_upto_region 14 with fail
  go_cut [99] (fun s wx => s = .bool false ∧ Hid (Below w10.heap.size w10 wx))
  case first =>
    cases f
    · go_wp2_with fail
      go_meet
      exact ⟨rfl, Below.refl _ _⟩
    · have hsh : showV rr = s := HSH.out rfl
      have hbq : (s.toList == s.toList) = true := by simp
      have kH := impl_show aq rr cq w10 VQ10.out (by omega)
      rw [hsh] at kH
      clear hsh HSH
      go_wp2_with fail
      refine kH.mono ?_
      clear kH
      rintro e w11 ⟨rfl, b11⟩
      have HB11 : Hid (Below w10.heap.size w10 w11) := b11
      clear b11
      go_wp2_with fail
      go_meet
      exact ⟨rfl, HB11⟩
  case rest =>
  obtain ⟨rfl, HB11⟩ := hcut
  rename World => w11
  have VY11 : Hid (VO w11 ay r) := VY10.out.below HB11.out
  have VL11 : Hid (VAt w11 b1 0 l) := VL10.out.below HB11.out
  have BB11 : Hid (Below w0.heap.size w0 w11) := BB10.out.trans (HB11.out.mono BB10.out.size)
  clear VY10 VL10 BB10 HB11 VQ10 HSH
  obtain ⟨z, hz⟩ : ∃ z, at0 L = z := ⟨_, rfl⟩
  have hzb := at0_bound L
  have kZ : ∀ W : World, Below w0.heap.size w0 W → _ := fun W h => at_zero a L cap W (code_below HL.out h) hlen
  rw [hz] at kZ hzb
  have KZ : Hid (_) := kZ
  clear hz kZ
  go_upto_block 0 with fail
  go_cut [16] (fun sv wx => ∃ (q : Value) (sl : List Int), sv = q ∧ Hid (OwnI wx w11.heap.size q sl) ∧ Hid (ok = true → sl = turns l z l.length) ∧ sl.length ≤ 8 ∧ Hid (Below w11.heap.size w11 wx))
  case first =>
    go_wp2_with fail
    go_loopw [17, 16] (fun iv ov wr => ∃ (k : Nat) (q : Value), k ≤ l.length ∧ iv = .int .i64 k ∧ q = ov ∧ Hid (OwnI wr w11.heap.size q (turns l z k)) ∧ Hid (Below w11.heap.size w11 wr)) (fun iv _ _ => l.length - (intOf iv).toNat)
    case atStart => exact ⟨0, _, Nat.zero_le _, rfl, rfl, World.ownsRow_made w11 #[] 0 (Nat.le_refl _) (by decide) rfl, (Below.refl _ _).alloc (Nat.le_refl _) _⟩
    case round =>
      obtain ⟨k, q, hk, rfl, rfl, HO, HB⟩ := hrel
      have htl := turns_length l z k
      by_cases hlt : k < l.length
      · have hltz : (k : Int) < (l.length : Int) := by omega
        have kA := KOk.out wr (VL11.out.below HB.out)
        cases ok
        · go_wp2_with fail
          refine kA.mono ?_
          clear kA
          rintro e w12 ⟨rfl, b12⟩
          have HO2 : Hid (OwnI w12 w11.heap.size q (turns l z k)) := own_keep HO.out b12
          have HB2 : Hid (Below w11.heap.size w11 w12) := HB.out.trans (b12.mono HB.out.size)
          clear b12
          go_wp2_with fail
          go_meet
          exact ⟨_, _, rfl, HO2, fun e => (by cases e), by omega, HB2⟩
        · go_wp2_with fail
          refine kA.mono ?_
          clear kA
          rintro e w12 ⟨rfl, b12⟩
          have HO2 : Hid (OwnI w12 w11.heap.size q (turns l z k)) := own_keep HO.out b12
          have HB2 : Hid (Below w11.heap.size w11 w12) := HB.out.trans (b12.mono HB.out.size)
          have VL12 : Hid (VAt w12 b1 0 l) := VL11.out.below HB2.out
          clear b12 HO HB
          go_wp2_with fail
          refine (KZ.out w12 (BB11.out.trans (HB2.out.mono BB11.out.size))).mono ?_
          rintro e w13 ⟨rfl, rfl⟩
          have kT := impl_turn (some ⟨b1, 0, none⟩) l c1 z (k : Int) w13 VL12.out.o (by omega) (by omega) (by omega)
          have hsn := turns_snoc l z k
          generalize turn l z (k : Int) = x at *
          have HSN : Hid (turns l z (k + 1) = turns l z k ++ [x]) := hsn
          clear hsn
          go_wp2_with fail
          refine kT.mono ?_
          clear kT
          rintro e w14 ⟨rfl, b14⟩
          have hb3 := HB2.out.trans (b14.mono HB2.out.size)
          have HO3 : Hid (OwnI (w14.alloc (.cells #[.int .i64 x] 3)) w11.heap.size q (turns l z k)) := World.ownsRow.alloc (own_keep HO2.out b14) _
          have HC : Hid (_) := one_int w14 x
          have hsz1 : w11.heap.size ≤ w14.heap.size := hb3.size
          have hlt' : ∀ j, _ → _ := fun j hj => ((own_keep HO2.out b14).lt j hj).1
          clear b14
          go_wp2_with (at_builtin; refine wpList_append_own _ rfl _ _ 34 rfl w11.heap.size 3 i0 (.int .i64 0) 1 8 Tryd.underlying34 hinf hz0 hz1 hz2 rfl (by decide) _ _ _ rfl HO3.out ⟨w14.heap.size, 0, none⟩ 1 1 ([i64v x]) rfl rfl HC.out (i64v_one [x]) (by unfold maxLen; omega) (by omega) (by simp; omega) ?_)
          intro v' w15 hown' hgrow _
          have HO4 : Hid (OwnI w15 w11.heap.size v' (turns l z (k + 1))) := by
            show OwnI _ _ _ _
            rw [HSN.out]; exact own_snocI (by rw [htl]; exact hown')
          have HB4 : Hid (Below w11.heap.size w11 w15) := (hb3.alloc hb3.size (.cells #[.int .i64 x] 3)).grown hgrow (by simp; omega) (fun j hj => (HO2.out.lt j hj).1)
          clear hgrow hown' HC HO3 HO2 HSN
          go_wp2
          go_roundw
          case rel =>
            have R : ∃ (k' : Nat) (q : Value), k' ≤ l.length ∧ Value.int .i64 ((k : Int) + 1) = .int .i64 k' ∧ q = v' ∧ Hid (OwnI w15 w11.heap.size q (turns l z k')) ∧ Hid (Below w11.heap.size w11 w15) := ⟨k + 1, _, by omega, by go_num, rfl, HO4, HB4⟩
            first | exact R | ((repeat apply Exists.intro); exact ⟨R, rfl⟩)
          case measure => simp [intOf]; omega
      · have hltz : ¬ (k : Int) < (l.length : Int) := by omega
        have hkl : k = l.length := by omega
        go_wp2_with fail
        go_meet
        exact ⟨_, _, rfl, HO, fun _ => (by rw [hkl]), by omega, HB⟩
  case rest =>
  obtain ⟨q, sl, rfl, HO, HSL, hsl8, HB12⟩ := hcut
  rename World => w12
  obtain ⟨aS, cs, rfl, hi, _, _⟩ := OwnI.o HO.out
  have HI12 : Hid (Nums w12 aS sl) := hi
  have VY12 : Hid (VO w12 ay r) := VY11.out.below HB12.out
  have VL12 : Hid (VAt w12 b1 0 l) := VL11.out.below HB12.out
  have BB12 : Hid (Below w0.heap.size w0 w12) := BB11.out.trans (HB12.out.mono BB11.out.size)
  clear VY11 VL11 BB11 HB12 HO hi KZ
  go_upto_block 2 with fail
  go_cut [] (fun wx => Hid (Below w12.heap.size w12 wx))
  case first =>
    go_wp2_with fail
    go_loopw [18] (fun iv wr => ∃ (k : Nat), k ≤ l.length ∧ iv = .int .i64 k ∧ Hid (Below w12.heap.size w12 wr)) (fun iv _ => l.length - (intOf iv).toNat)
    case atStart => exact ⟨0, Nat.zero_le _, rfl, Below.refl _ _⟩
    case round =>
      obtain ⟨k, hk, rfl, HB⟩ := hrel
      by_cases hlt : k < l.length
      · have hltz : (k : Int) < (l.length : Int) := by omega
        have kA := KOk.out wr (VL12.out.below HB.out)
        cases ok
        · go_wp2_with fail
          refine kA.mono ?_
          clear kA
          rintro e w13 ⟨rfl, b13⟩
          have HB2 : Hid (Below w12.heap.size w12 w13) := HB.out.trans (b13.mono HB.out.size)
          clear b13
          go_wp2_with fail
          go_meet
          exact HB2
        · go_wp2_with fail
          refine kA.mono ?_
          clear kA
          rintro e w13 ⟨rfl, b13⟩
          have HB2 : Hid (Below w12.heap.size w12 w13) := HB.out.trans (b13.mono HB.out.size)
          clear b13 HB
          obtain ⟨v, hv⟩ : ∃ v, l[k].i = v := ⟨_, rfl⟩
          have c1' := (VL12.out.below HB2.out k hlt).1
          rw [hv] at c1'
          have kH := laws_has aS sl cs v w13 (HI12.out.below HB2.out) (by omega)
          rw [hasI_mem (show v ∈ sl by rw [HSL.out (by trivial), ← hv]; exact turns_all HOK.out hzb.1 k hlt)] at kH
          clear hv
          rw [Nat.zero_add] at c1'
          go_wp2_with fail
          refine kH.mono ?_
          clear kH
          rintro e w14 ⟨rfl, rfl⟩
          clear c1'
          go_wp2
          go_roundw
          case rel =>
            have R : ∃ (k' : Nat), k' ≤ l.length ∧ Value.int .i64 ((k : Int) + 1) = .int .i64 k' ∧ Hid (Below w12.heap.size w12 w14) := ⟨k + 1, by omega, by go_num, HB2⟩
            first | exact R | ((repeat apply Exists.intro); exact ⟨R, rfl⟩)
          case measure => simp [intOf]; omega
      · have hltz : ¬ (k : Int) < (l.length : Int) := by omega
        go_wp2_with fail
        go_meet
        exact HB
  case rest =>
  rename World => w13
  have VY13 : Hid (VO w13 ay r) := VY12.out.below hcut.out
  have BB13 : Hid (Below w0.heap.size w0 w13) := BB12.out.trans (hcut.out.mono BB12.out.size)
  clear VY12 VL12 BB12 HI12 HSL HOK KOk hcut
  cases t
  · go_wp2_with fail
    go_ret
    exact ⟨rfl, BB13.out⟩
  · have hv : vOk r = true := HTV.out rfl
    have kO := spec_ok ay r cy w13 VY13.out (by omega)
    rw [hv] at kO
    have kH : ∀ W : World, VO W ay r → Tab W → _ := fun W h1 h2 => impl_vhash ay r cy W h1 (by omega) h2
    have hh : (hashV r).size = 8 := by unfold hashV; rw [hv]; exact size_shortB _
    generalize hashV r = g at *
    clear hv HTV
    have KH : Hid (_) := kH
    clear kH
    go_wp2_with fail
    refine kO.mono ?_
    clear kO
    rintro e w14 ⟨rfl, b14⟩
    have BB14 : Hid (Below w0.heap.size w0 w14) := BB13.out.trans (b14.mono BB13.out.size)
    have VY14 : Hid (VO w14 ay r) := VY13.out.below b14
    clear b14 BB13 VY13
    go_wp2_with fail
    refine (KH.out w14 VY14.out (HT.out.below BB14.out HT.out.pos)).mono ?_
    clear KH
    rintro e w15 ⟨rfl, b15⟩
    have BB15 : Hid (Below w0.heap.size w0 w15) := BB14.out.trans (b15.mono BB14.out.size)
    clear b15
    go_wp2
    go_ret
    exact ⟨rfl, BB15.out⟩
end Go.Proofs.YtaeokecodejpdaaDoor
