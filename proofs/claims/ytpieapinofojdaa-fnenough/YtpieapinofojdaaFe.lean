/- FnEnough at every code: true; old memory stays. Conditions: none of ours. -/
import Derived.Test.YtpieapinofojdaaDf
import Derived.Test.YtpieapinofojdaaKn3
import Derived.Test.YtpieapinofojdaaEn2
namespace Go.Proofs.Ytpieapinofojdaa
open Go.RowKit
open Num
set_option linter.unusedVariables false
theorem OwnI.r {w : World} {B : Nat} {v : Value} {l : List Int} (h : OwnI w B v l) (hn : ¬ v = Value.slice none 0 0) : ∃ g cap, v = .slice (some ⟨g, 0, none⟩) l.length cap ∧ IAt w g 0 l ∧ cap ≤ 9223372036854775807 := by
  have h' := h
  rcases h.2 with ⟨h1, _⟩ | ⟨g, cap, cur, rfl, _, hg, hnc, hcm, _⟩
  · exact absurd h1 hn
  · refine ⟨g, cap, rfl, fun j hj => ?_, hcm⟩
    rw [Nat.zero_add, h'.cellAt j (by omega)]
    simp [i64v, hj]
theorem iAt_news {w : World} {g : Nat} {l : List Int} (h : IAt w g 0 l) : ∀ j u, (l.map i64v)[j]? = some u → w.cell? ((⟨g, 0, none⟩ : Addr).add j) = some u := by
  intro j u hj
  rw [add_at]
  have hlt : j < l.length := by
    have := (List.getElem?_eq_some_iff.1 hj).1
    simpa using this
  have := h j hlt
  rw [Nat.zero_add] at this
  rw [this, ← hj]
  simp [i64v, hlt]
theorem OwnI.o {w : World} {B : Nat} {v : Value} {l : List Int} (h : OwnI w B v l) : ∃ a cap, v = .slice a l.length cap ∧ Nums w a l ∧ l.length ≤ cap ∧ cap ≤ 9223372036854775807 := by
  have h' := h
  rcases h.2 with ⟨rfl, hn⟩ | ⟨g, cap, cur, rfl, _, hg, hnc, hcm, _⟩
  · exact ⟨none, 0, by rw [hn], .inl hn, by omega, by omega⟩
  · refine ⟨some ⟨g, 0, none⟩, cap, rfl, .inr ⟨g, 0, rfl, fun j hj => ?_⟩, hnc, hcm⟩
    rw [Nat.zero_add, h'.cellAt j (by omega)]
    simp [i64v, hj]
set_option maxHeartbeats 1600000 in
set_option maxRecDepth 100000 in
theorem fn_enough (a : Option Addr) (L : List UInt8) (cap : Nat) (w : World) (hl : CodeAt w w.heap.size a L) (hlen : L.length ≤ 1048576) :
    Calls Try.prog 3 #[.slice a L.length cap] w fun e w' => e = .returned (.bool true) ∧ Below w.heap.size w w' := by
  obtain ⟨i0, hinf, hz0, hz1, hz2⟩ := info3f
  have hbig : decide ((1048576 : Int) < (L.length : Int)) = false := by simp; omega
  have HL : Hid (CodeAt w w.heap.size a L) := hl
  clear hl
  go_enter Try.func3, Try.ntmps3
  go_wp2_with fail
  refine (big_any a L.length cap _ (by omega)).mono ?_
  rintro e w0 ⟨rfl, rfl⟩
  rw [hbig]
  clear hbig
  go_wp2_with fail
  refine (draw_enough a L cap w0 HL.out hlen).mono ?_
  rintro e w1 ⟨v, u, l, ids, rfl, HO1, HDr, HI1, HN1, HB1⟩
  obtain ⟨av, capv, rfl, hv, _, hcv⟩ := OwnV.o HO1.out
  obtain ⟨gu, capu, rfl, hu, hcu⟩ := OwnI.r HI1.out HN1.out.2
  have HV1 : Hid (VO w1 av l) := hv
  have HU1 : Hid (IAt w1 gu 0 ids) := hu
  have hl8 : l.length ≤ 8 := HDr.out.1
  have hids : ids.length ≤ 11 := HN1.out.1
  have HLa : Hid (CodeAt w1 w1.heap.size a L) := code_below HL.out HB1.out
  clear hv hu HO1 HI1 HN1 HL
  go_wp2_with fail
  refine (fresh_any a L cap w1 HLa.out hlen).mono ?_
  rintro e w2 ⟨a2, L2, cap2, rfl, HC2, HL2, HB2⟩
  have HB12 : Hid (Below w0.heap.size w0 w2) := HB1.out.trans (HB2.out.mono HB1.out.size)
  have HV2 : Hid (VO w2 av l) := HV1.out.below HB2.out
  have HU2 : Hid (IAt w2 gu 0 ids) := HU1.out.below HB2.out
  clear HB1 HV1 HU1 HLa HB2
  go_wp2_with fail
  refine (draw_enough a2 L2 cap2 w2 HC2.out HL2.out).mono ?_
  rintro e w3 ⟨v3, u3, l3, idt, rfl, HO3, _, HI3, HN3, HB3⟩
  obtain ⟨a3, cap3, rfl, _, _, _⟩ := OwnV.o HO3.out
  obtain ⟨gt, capt, rfl, ht3, hct⟩ := OwnI.r HI3.out HN3.out.2
  have HT3 : Hid (IAt w3 gt 0 idt) := ht3
  have hidt : idt.length ≤ 11 := HN3.out.1
  have HB13 : Hid (Below w0.heap.size w0 w3) := HB12.out.trans (HB3.out.mono HB12.out.size)
  have HV3 : Hid (VO w3 av l) := HV2.out.below HB3.out
  have HU3 : Hid (IAt w3 gu 0 ids) := HU2.out.below HB3.out
  clear HB12 HV2 HU2 HB3 HO3 HI3 HN3 ht3 HC2 HL2
  go_wp2_with fail
  refine (impl_enough av l capv _ ids capu w3 HV3.out HU3.out.o (by omega) (by omega)).mono ?_
  rintro e w4 ⟨rfl, hb4⟩
  have HB4 : Hid (Below w3.heap.size w3 w4) := hb4
  clear hb4
  go_wp2_with fail
  refine (impl_enough av l capv _ idt capt w4 (HV3.out.below HB4.out) (HT3.out.below HB4.out).o (by omega) (by omega)).mono ?_
  rintro e w5 ⟨rfl, hb5⟩
  have HB5 : Hid (Below w3.heap.size w3 w5) := HB4.out.trans (hb5.mono HB4.out.size)
  clear hb5 HB4
  go_wp2_with fail
  refine (spec_enough av l capv _ ids capu w5 (HV3.out.below HB5.out) (HU3.out.below HB5.out).o (by omega) (by omega)).mono ?_
  rintro e w6 ⟨rfl, hb6⟩
  have HB6 : Hid (Below w3.heap.size w3 w6) := HB5.out.trans (hb6.mono HB5.out.size)
  clear hb6 HB5
  have HX : Hid (enough l ids = true → enough l idt = true → powerOf l < 3 * pw (both l ids idt)) := fun h1 h2 => third h1 h2
  have HM : Hid (enough l ids = true → enough l (ids ++ idt) = true) := fun h1 => more h1
  obtain ⟨x, hx⟩ : ∃ x, enough l ids = x := ⟨_, rfl⟩
  obtain ⟨y, hy⟩ : ∃ x, enough l idt = x := ⟨_, rfl⟩
  have hpb : Hid (0 ≤ powerOf l ∧ powerOf l ≤ 7000) := by
    show _ ∧ _
    unfold powerOf
    cases ho : vOk l with
    | false => simp
    | true => have := pw_take_bound ho l.length; rw [List.take_length] at this; simpa using this
  rw [hx] at HX HM
  rw [hy] at HX
  rw [hx, hy]
  clear hx hy
  have kP1 := fun W h => impl_power av l capv W h (by omega)
  have kP2 := fun W h => spec_power av l capv W h (by omega)
  obtain ⟨pwl, hpw⟩ : ∃ p, powerOf l = p := ⟨_, rfl⟩
  rw [hpw] at HX hpb kP1 kP2
  clear hpw
  have hxx : (x != x) = false := by simp
  go_wp2_with fail
  refine (kP1 w6 (HV3.out.below HB6.out)).mono ?_
  rintro e w7 ⟨rfl, hb7⟩
  have HB7 : Hid (Below w3.heap.size w3 w7) := HB6.out.trans (hb7.mono HB6.out.size)
  clear hb7 HB6
  go_wp2_with fail
  refine (kP2 w7 (HV3.out.below HB7.out)).mono ?_
  rintro e w8 ⟨rfl, hb8⟩
  have HB8 : Hid (Below w3.heap.size w3 w8) := HB7.out.trans (hb8.mono HB7.out.size)
  clear hb8 HB7
  have HV8 : Hid (VO w8 av l) := HV3.out.below HB8.out
  have HU8 : Hid (IAt w8 gu 0 ids) := HU3.out.below HB8.out
  have HT8 : Hid (IAt w8 gt 0 idt) := HT3.out.below HB8.out
  have HB9 : Hid (Below w0.heap.size w0 w8) := HB13.out.trans (HB8.out.mono HB13.out.size)
  have hs8 : w0.heap.size ≤ w8.heap.size := HB9.out.size
  clear HV3 HU3 HT3 HB13 HB8 kP2 hxx
  go_wp2
  go_loop [10, 9] (fun iv sv => ∃ (k : Nat) (s : Int), k ≤ l.length ∧ iv = .int .i64 k ∧ sv = .int .i64 s ∧ Hid (s = pw (both (l.take k) ids idt)) ∧ -8 ≤ s ∧ s ≤ 8008) (fun iv _ => l.length - (intOf iv).toNat)
  case atStart => exact ⟨0, 0, Nat.zero_le _, rfl, rfl, rfl, by omega, by omega⟩
  case round =>
    obtain ⟨k, s, hk, rfl, rfl, HS, hs0, hs1⟩ := hrel
    by_cases hlt : k < l.length
    · have hltz : (k : Int) < (l.length : Int) := by omega
      rcases HV8.out with h0 | ⟨b, o, rfl, hv⟩
      · omega
      obtain ⟨v, hvE⟩ : ∃ v, l[k] = v := ⟨_, rfl⟩
      have c1 := (hv k hlt).1
      have c2 := (hv k hlt).2
      rw [hvE] at c1 c2
      have hsn := both_snoc l ids idt k hlt
      rw [hvE] at hsn
      have hbd := both_bound HDr.out.2 hl8 ids idt (k + 1)
      have hpv := HDr.out.2 v (by rw [← hvE]; exact List.getElem_mem ..)
      have kA := laws_has _ ids capu v.i w8 HU8.out.o (by omega)
      have kB := laws_has _ idt capt v.i w8 HT8.out.o (by omega)
      clear hv hvE
      rcases hA : hasI ids v.i with _ | _
      · rw [hA] at kA hsn
        have HN : Hid (s = pw (both (l.take (k + 1)) ids idt)) := by show _ = _; rw [hsn, HS.out]; simp
        clear hA hsn hbd kB
        go_wp2_with fail
        refine kA.mono ?_
        rintro e w9 ⟨rfl, rfl⟩
        go_wp2
        go_round
        case rel => exact ⟨k + 1, s, by omega, by go_num, rfl, HN, hs0, hs1⟩
        case measure => simp [intOf]; omega
      · rcases hB : hasI idt v.i with _ | _
        · rw [hA, hB] at hsn
          rw [hA] at kA
          rw [hB] at kB
          have HN : Hid (s = pw (both (l.take (k + 1)) ids idt)) := by show _ = _; rw [hsn, HS.out]; simp
          clear hA hB hsn hbd
          go_wp2_with fail
          refine kA.mono ?_
          rintro e w9 ⟨rfl, rfl⟩
          go_wp2_with fail
          refine kB.mono ?_
          rintro e w10 ⟨rfl, rfl⟩
          go_wp2
          go_round
          case rel => exact ⟨k + 1, s, by omega, by go_num, rfl, HN, hs0, hs1⟩
          case measure => simp [intOf]; omega
        · rw [hA, hB] at hsn
          rw [hA] at kA
          rw [hB] at kB
          have HN : Hid (s + v.p = pw (both (l.take (k + 1)) ids idt)) := by show _ = _; rw [hsn, HS.out]; simp
          have hbd' : -8 ≤ s + v.p ∧ s + v.p ≤ 8008 := by rw [HN.out]; exact hbd
          clear hA hB hsn hbd
          go_wp2_with fail
          refine kA.mono ?_
          rintro e w9 ⟨rfl, rfl⟩
          go_wp2_with fail
          refine kB.mono ?_
          rintro e w10 ⟨rfl, rfl⟩
          go_wp2
          go_round
          case rel => exact ⟨k + 1, _, by omega, by go_num, rfl, HN, hbd'.1, hbd'.2⟩
          case measure => simp [intOf]; omega
    · have hltz : ¬ (k : Int) < (l.length : Int) := by omega
      have HF : Hid (x = true → y = true → pwl < 3 * s) := fun h1 h2 => by
        have := HX.out h1 h2
        rw [HS.out, List.take_of_length_le (by omega)]; exact this
      have HI0 : Hid (OwnI (w8.alloc (.cells #[] 3)) w8.heap.size (.slice (some ⟨w8.heap.size, 0, none⟩) 0 0) []) := World.ownsRow_made w8 #[] 0 (Nat.le_refl _) (by decide) rfl
      have hb8a : Below w8.heap.size w8 (w8.alloc (.cells #[] 3)) := (Below.refl _ _).alloc (Nat.le_refl _) _
      have HC1 : Hid (_) := iAt_news (HU8.out.below hb8a)
      clear HX HS
      go_wp2_with (at_builtin; refine wpList_append_own _ rfl _ _ 25 rfl w8.heap.size 3 i0 (.int .i64 0) 1 8 Try.underlying25 hinf hz0 hz1 hz2 rfl (by decide) _ _ _ rfl HI0.out ⟨gu, 0, none⟩ ids.length capu (ids.map i64v) rfl (by simp) HC1.out (i64v_one ids) (by unfold maxLen; simp; omega) (by simp; omega) (by simp) ?_)
      intro v1 w9 hown1 hgrow1 _
      have HI1 : Hid (OwnI w9 w8.heap.size v1 ids) := by show World.ownsRow _ _ _ _ _ _ _; simpa using hown1
      have HB10 : Hid (Below w8.heap.size w8 w9) := hb8a.grown hgrow1 (by simp) (fun j hj => (HI0.out.lt j hj).1)
      have HC2 : Hid (_) := iAt_news (HT8.out.below HB10.out)
      clear hown1 hgrow1 HC1 HI0 hb8a
      go_wp2_with (at_builtin; refine wpList_append_own _ rfl _ _ 25 rfl w8.heap.size 3 i0 (.int .i64 0) 1 8 Try.underlying25 hinf hz0 hz1 hz2 rfl (by decide) _ _ _ rfl HI1.out ⟨gt, 0, none⟩ idt.length capt (idt.map i64v) rfl (by simp) HC2.out (i64v_one idt) (by unfold maxLen; omega) (by omega) HB10.out.size ?_)
      intro v2 w10 hown2 hgrow2 _
      have HI2 : Hid (OwnI w10 w8.heap.size v2 (ids ++ idt)) := by show World.ownsRow _ _ _ _ _ _ _; rw [List.map_append, List.length_append]; exact hown2
      have HB11 : Hid (Below w8.heap.size w8 w10) := HB10.out.grown hgrow2 HB10.out.size (fun j hj => (HI1.out.lt j hj).1)
      have HB12 : Hid (Below w0.heap.size w0 w10) := HB9.out.trans (HB11.out.mono hs8)
      have HV10 : Hid (VO w10 av l) := HV8.out.below HB11.out
      obtain ⟨a5, cap5, rfl, hi5, _, _⟩ := OwnI.o HI2.out
      have HI5 : Hid (Nums w10 a5 (ids ++ idt)) := hi5
      clear hown2 hgrow2 HC2 HI1 HI2 hi5 HB10 HB11 HV8 HU8 HT8 HB9
      have hpl := hpb.out
      rcases x with _ | _
      · go_wp2
        go_ret
        exact ⟨rfl, HB12.out⟩
      · have hM := HM.out rfl
        have kE : ∀ W, VO W av l → Nums W a5 (ids ++ idt) → Calls Try.prog 14 #[.slice av l.length capv, .slice a5 (ids.length + idt.length) cap5] W fun e w' => e = .returned (.bool true) ∧ Below W.heap.size W w' := fun W h1 h2 => by
          have := impl_enough av l capv a5 (ids ++ idt) cap5 W h1 h2 (by omega) (by simp; omega)
          rw [hM, List.length_append] at this
          exact this
        rcases y with _ | _
        · clear HF
          go_wp2_with fail
          refine (kE w10 HV10.out HI5.out).mono ?_
          rintro e w11 ⟨rfl, hb⟩
          have hb2 := HB12.out.trans (hb.mono HB12.out.size)
          go_wp2
          go_ret
          exact ⟨rfl, hb2⟩
        · have hF := HF.out rfl rfl
          clear HF
          go_wp2_with fail
          refine (kP1 w10 HV10.out).mono ?_
          rintro e w11 ⟨rfl, hb⟩
          have HB13 : Hid (Below w0.heap.size w0 w11) := HB12.out.trans (hb.mono HB12.out.size)
          have HV11 : Hid (VO w11 av l) := HV10.out.below hb
          have HI11 : Hid (Nums w11 a5 (ids ++ idt)) := HI5.out.below hb
          clear hb
          go_wp2_with fail
          refine (kE w11 HV11.out HI11.out).mono ?_
          rintro e w12 ⟨rfl, hb⟩
          have hb2 := HB13.out.trans (hb.mono HB13.out.size)
          go_wp2
          go_ret
          exact ⟨rfl, hb2⟩
theorem fn_enough_all (a : Option Addr) (L : List UInt8) (cap : Nat) (w : World) (hl : CodeAt w w.heap.size a L) (hm : L.length ≤ 9223372036854775807) :
    Calls Try.prog 3 #[.slice a L.length cap] w fun e w' => e = .returned (.bool true) ∧ Below w.heap.size w w' := by
  by_cases h : L.length ≤ 1048576
  · exact fn_enough a L cap w hl h
  · have hbig : decide ((1048576 : Int) < (L.length : Int)) = true := by simp; omega
    go_enter Try.func3, Try.ntmps3
    go_wp2_with fail
    refine (big_any a L.length cap _ hm).mono ?_
    rintro e w0 ⟨rfl, rfl⟩
    rw [hbig]
    go_wp2
    go_ret
    exact ⟨rfl, Below.refl _ _⟩
end Go.Proofs.Ytpieapinofojdaa
