/- FnHeaders at every code of at most 2 to the 20 bytes: true; old memory stays. Conditions: the table lies where it should. -/
import Derived.Test.YtbpmjejmeaifbaaDoorDd9
import Derived.Test.YtbpmjejmeaifbaaDoorIh
import Derived.Test.YtbpmjejmeaifbaaDoorRs
import Derived.Test.YtbpmjejmeaifbaaDoorCi
import Derived.Test.YtbpmjejmeaifbaaDoorCr
import Derived.Test.YtbpmjejmeaifbaaDoorIc
import Derived.Test.YtbpmjejmeaifbaaDoorME
import Derived.Laws.StructEq
import Derived.Deep.DeepCutAuto
import Derived.Deep.CutBlock
namespace Go.Proofs.YtbpmjejmeaifbaaDoor
open Go.RowKit
open Num
set_option linter.unusedVariables false
set_option maxHeartbeats 400000 in
set_option maxRecDepth 100000 in
theorem big_any (a : Option Addr) (len cap : Nat) (w : World) (hm : len ≤ 9223372036854775807) :
    Calls Tryd.prog 5 #[.slice a len cap] w fun e w' => e = .returned (.bool (decide ((1048576 : Int) < (len : Int)))) ∧ w' = w := by
  go_enter Tryd.func5, Tryd.ntmps5
  go_wp2
  go_ret
  exact ⟨rfl, rfl⟩
theorem stoodH : Tryd.prog.stoodInHeld 25 = false := by kernel_rfl
theorem guardH : Tryd.prog.eqGuardType Tryd.prog.depth 25 = false := by kernel_rfl
theorem fieldsH : Tryd.prog.underlying 25 = some (.struct (Tryd.prog.fieldsOf 25)) := by
  unfold Program.fieldsOf; rw [Tryd.underlying25]
theorem run_neH (h t : Int) (a v n d : ByteArray) (w : World) :
    (binOp .neq 25 (.agg #[.int .i64 h, .int .i64 t, .string a, .string v, .string n, .string d]) (.agg #[.int .i64 h, .int .i64 t, .string a, .string v, .string n, .string d])).run Tryd.prog w = .ok (.bool false) w := by
  rw [run_neq_struct, run_equalIn_agg w 9999 25 _ _ fieldsH stoodH]
  simp [go_sem, Program.fieldsOf, Tryd.underlying25, Tryd.underlying3, Tryd.underlying9, Op.eqFields]
theorem rdH_none : rdH ⟨#[]⟩ = (zH, false) := rd_bad (by first | rfl | decide | kernel_rfl)
theorem rdC_none : rdC ⟨#[]⟩ = (zC, false) := rdC_bad (by first | rfl | decide | kernel_rfl)
theorem rdH_of (y : H) : (rdH (showH y)).2 = hOk y ∧ ((rdH (showH y)).2 = true → (rdH (showH y)).1 = y) := by
  rcases hO : hOk y with _ | _
  · rw [showH_no hO, rdH_none]; exact ⟨rfl, fun h => by cases h⟩
  · rw [rd_yes hO rfl]; exact ⟨rfl, fun _ => rfl⟩
theorem rdH_back (s : ByteArray) : (rdH s).2 = true → showH (rdH s).1 = s := by
  by_cases h1 : hOk (irH s) = true
  · by_cases h2 : showH (irH s) = s
    · rw [rd_good h1 h2]; exact fun _ => h2
    · rw [rd_other h2]; exact fun h => by cases h
  · rw [rd_bad (by simpa using h1)]; exact fun h => by cases h
theorem rdC_of (x : Ct) : (showC x).toList.isEmpty = !(rdC (showC x)).2 := by
  rcases hO : cOk x with _ | _
  · rw [showC_no hO, rdC_none, Go.ByteArray.toList_eq]; rfl
  · rw [rdC_yes hO rfl]
    rcases he : (showC x).toList.isEmpty with _ | _
    · rfl
    · have e : showC x = ⟨#[]⟩ := toList_inj (by rw [List.isEmpty_iff.1 he, Go.ByteArray.toList_eq])
      have h := rdC_yes hO rfl
      rw [e, rdC_none] at h
      cases h
theorem rdC_back (s : ByteArray) : (rdC s).2 = true → showC (rdC s).1 = s ∧ SzOk (rdC s).1 := by
  rcases rdC_cases s with ⟨x, e, hO, hs⟩ | ⟨e, _⟩
  · rw [e]
    refine fun _ => ⟨hs, ?_, ?_, ?_⟩
    · have := cOk_i hO; show x.i.size ≤ _; omega
    · have := ((cOk_iff x).1 hO).2.1; show x.l.length ≤ _; omega
    · intro y hy; have := cOk_s hO y hy; omega
  · rw [e]; exact fun h => by cases h
set_option maxHeartbeats 6400000 in
set_option maxRecDepth 100000 in
theorem fn_headers (a : Option Addr) (L : List UInt8) (cap : Nat) (w : World) (hl : CodeAt w w.heap.size a L) (hT : Tab w) (hlen : L.length ≤ 1048576) :
    Calls Tryd.prog 3 #[.slice a L.length cap] w fun e w' => e = .returned (.bool true) ∧ Below w.heap.size w w' := by
  have HL0 : Hid (CodeAt w w.heap.size a L) := hl
  have HT0 : Hid (Tab w) := hT
  have HB0 : Hid (Below w.heap.size w w) := Below.refl _ _
  have kB := big_any a L.length cap w (by omega)
  rw [decide_eq_false (by omega)] at kB
  clear hl hT
  go_enter Tryd.func3, Tryd.ntmps3
  go_wp2_with fail
  refine kB.mono ?_
  clear kB
  rintro e w0 ⟨rfl, rfl⟩
  go_wp2_with fail
  refine (draw_sh a L cap w0 HL0.out hlen).mono ?_
  rintro e w1 ⟨⟨yh, yt, ya, yv, yn, yd⟩, rfl, HY, HBa⟩
  have HL_1 : Hid (CodeAt w1 w1.heap.size a L) := code_below HL0.out HBa.out
  have HT_1 : Hid (Tab w1) := HT0.out.below HBa.out HT0.out.pos
  have HB_1 : Hid (Below w0.heap.size w0 w1) := HB0.out.trans (HBa.out.mono HB0.out.size)
  clear HL0 HT0 HB0
  clear HBa
  unfold hV
  obtain ⟨w2, hww2⟩ : ∃ W, w1.alloc (.cells [.int .i64 yh, .int .i64 yt, .string ya, .string yv, .string yn, .string yd].toArray 25) = W := ⟨_, rfl⟩
  have hbw2 : Below w1.heap.size w1 w2 := by rw [← hww2]; exact below_one _ _
  have HL_2 : Hid (CodeAt w2 w2.heap.size a L) := code_below HL_1.out hbw2
  have HT_2 : Hid (Tab w2) := HT_1.out.below hbw2 HT_1.out.pos
  have HB_2 : Hid (Below w0.heap.size w0 w2) := HB_1.out.trans (hbw2.mono HB_1.out.size)
  clear HL_1 HT_1 HB_1
  have K3_n : Hid (Blk w2 w1.heap.size [.int .i64 yh, .int .i64 yt, .string ya, .string yv, .string yn, .string yd] 25) := by rw [← hww2]; exact blk_new _ _ _
  clear hbw2
  have kS := fun W => impl_show ⟨yh, yt, ya, yv, yn, yd⟩ W
  have kO := fun W => spec_ok ⟨yh, yt, ya, yv, yn, yd⟩ W
  have kI := fun W (h : Tab W) => impl_headid ⟨yh, yt, ya, yv, yn, yd⟩ W h
  have kJ := fun W => spec_headid ⟨yh, yt, ya, yv, yn, yd⟩ W
  have kR := fun W => impl_read (showH ⟨yh, yt, ya, yv, yn, yd⟩) W (by have := showH_size ⟨yh, yt, ya, yv, yn, yd⟩; omega)
  have hR : Hid (_ ∧ _) := rdH_of ⟨yh, yt, ya, yv, yn, yd⟩
  generalize showH ⟨yh, yt, ya, yv, yn, yd⟩ = S at *
  generalize headI ⟨yh, yt, ya, yv, yn, yd⟩ = I at *
  generalize hOk ⟨yh, yt, ya, yv, yn, yd⟩ = ok at *
  generalize rdH S = RR at *
  obtain ⟨⟨rh, rt, ra, rv, rn, rd⟩, is⟩ := RR
  unfold hV at *
  simp only at kS kO kI kJ kR hR ⊢
  have pK30 := K3_n.out.cell 0 rfl
  have pK31 := K3_n.out.cell 1 rfl
  have pK32 := K3_n.out.cell 2 rfl
  have pK33 := K3_n.out.cell 3 rfl
  have pK34 := K3_n.out.cell 4 rfl
  have pK35 := K3_n.out.cell 5 rfl
  go_wp2_with fail
  clear hww2
  refine (kS _).mono ?_
  rintro e w3 ⟨rfl, b3⟩
  have HL_3 : Hid (CodeAt w3 w3.heap.size a L) := code_below HL_2.out b3
  have HT_3 : Hid (Tab w3) := HT_2.out.below b3 HT_2.out.pos
  have HB_3 : Hid (Below w0.heap.size w0 w3) := HB_2.out.trans (b3.mono HB_2.out.size)
  have K3_3 : Hid (Blk w3 w1.heap.size [.int .i64 yh, .int .i64 yt, .string ya, .string yv, .string yn, .string yd] 25) := K3_n.out.below b3 K3_n.out.lt
  clear HL_2 HT_2 HB_2 K3_n
  clear b3 kS pK30 pK31 pK32 pK33 pK34 pK35
  go_wp2_with fail
  refine (kR _).mono ?_
  rintro e w4 ⟨rfl, b4⟩
  have HL_4 : Hid (CodeAt w4 w4.heap.size a L) := code_below HL_3.out b4
  have HT_4 : Hid (Tab w4) := HT_3.out.below b4 HT_3.out.pos
  have HB_4 : Hid (Below w0.heap.size w0 w4) := HB_3.out.trans (b4.mono HB_3.out.size)
  have K3_4 : Hid (Blk w4 w1.heap.size [.int .i64 yh, .int .i64 yt, .string ya, .string yv, .string yn, .string yd] 25) := K3_3.out.below b4 K3_3.out.lt
  clear HL_3 HT_3 HB_3 K3_3
  clear b4 kR
  obtain ⟨w5, hww5⟩ : ∃ W, w4.alloc (.cells [.int .i64 rh, .int .i64 rt, .string ra, .string rv, .string rn, .string rd].toArray 25) = W := ⟨_, rfl⟩
  have hbw5 : Below w4.heap.size w4 w5 := by rw [← hww5]; exact below_one _ _
  have HL_5 : Hid (CodeAt w5 w5.heap.size a L) := code_below HL_4.out hbw5
  have HT_5 : Hid (Tab w5) := HT_4.out.below hbw5 HT_4.out.pos
  have HB_5 : Hid (Below w0.heap.size w0 w5) := HB_4.out.trans (hbw5.mono HB_4.out.size)
  have K3_5 : Hid (Blk w5 w1.heap.size [.int .i64 yh, .int .i64 yt, .string ya, .string yv, .string yn, .string yd] 25) := K3_4.out.below hbw5 K3_4.out.lt
  clear HL_4 HT_4 HB_4 K3_4
  have K4_n : Hid (Blk w5 w4.heap.size [.int .i64 rh, .int .i64 rt, .string ra, .string rv, .string rn, .string rd] 25) := by rw [← hww5]; exact blk_new _ _ _
  clear hbw5
  go_wp2_with fail
  clear hww5
  refine (draw_rh a L cap w5 HL_5.out hlen).mono ?_
  rintro e w6 ⟨s, rfl, HZs, HBb⟩
  have HL_6 : Hid (CodeAt w6 w6.heap.size a L) := code_below HL_5.out HBb.out
  have HT_6 : Hid (Tab w6) := HT_5.out.below HBb.out HT_5.out.pos
  have HB_6 : Hid (Below w0.heap.size w0 w6) := HB_5.out.trans (HBb.out.mono HB_5.out.size)
  have K3_6 : Hid (Blk w6 w1.heap.size [.int .i64 yh, .int .i64 yt, .string ya, .string yv, .string yn, .string yd] 25) := K3_5.out.below HBb.out K3_5.out.lt
  have K4_6 : Hid (Blk w6 w4.heap.size [.int .i64 rh, .int .i64 rt, .string ra, .string rv, .string rn, .string rd] 25) := K4_n.out.below HBb.out K4_n.out.lt
  clear HL_5 HT_5 HB_5 K3_5 K4_n
  clear HBb
  have kRi := fun W => impl_read s W (by have := HZs.out; omega)
  have kRs := fun W => spec_read s W (by have := HZs.out; omega)
  have hQ : Hid (_ → _) := rdH_back s
  generalize rdH s = QQ at *
  obtain ⟨⟨qh, qt, qa, qv, qn, qd⟩, fine⟩ := QQ
  have kSq := fun W => impl_show ⟨qh, qt, qa, qv, qn, qd⟩ W
  simp only at hQ
  generalize showH ⟨qh, qt, qa, qv, qn, qd⟩ = S2 at *
  unfold hV at *
  simp only at kRi kRs kSq ⊢
  go_wp2_with fail
  refine (kRi _).mono ?_
  rintro e w7 ⟨rfl, b7⟩
  have HL_7 : Hid (CodeAt w7 w7.heap.size a L) := code_below HL_6.out b7
  have HT_7 : Hid (Tab w7) := HT_6.out.below b7 HT_6.out.pos
  have HB_7 : Hid (Below w0.heap.size w0 w7) := HB_6.out.trans (b7.mono HB_6.out.size)
  have K3_7 : Hid (Blk w7 w1.heap.size [.int .i64 yh, .int .i64 yt, .string ya, .string yv, .string yn, .string yd] 25) := K3_6.out.below b7 K3_6.out.lt
  have K4_7 : Hid (Blk w7 w4.heap.size [.int .i64 rh, .int .i64 rt, .string ra, .string rv, .string rn, .string rd] 25) := K4_6.out.below b7 K4_6.out.lt
  clear HL_6 HT_6 HB_6 K3_6 K4_6
  clear b7 kRi HZs
  obtain ⟨w8, hww8⟩ : ∃ W, w7.alloc (.cells [.int .i64 qh, .int .i64 qt, .string qa, .string qv, .string qn, .string qd].toArray 25) = W := ⟨_, rfl⟩
  have hbw8 : Below w7.heap.size w7 w8 := by rw [← hww8]; exact below_one _ _
  have HL_8 : Hid (CodeAt w8 w8.heap.size a L) := code_below HL_7.out hbw8
  have HT_8 : Hid (Tab w8) := HT_7.out.below hbw8 HT_7.out.pos
  have HB_8 : Hid (Below w0.heap.size w0 w8) := HB_7.out.trans (hbw8.mono HB_7.out.size)
  have K3_8 : Hid (Blk w8 w1.heap.size [.int .i64 yh, .int .i64 yt, .string ya, .string yv, .string yn, .string yd] 25) := K3_7.out.below hbw8 K3_7.out.lt
  have K4_8 : Hid (Blk w8 w4.heap.size [.int .i64 rh, .int .i64 rt, .string ra, .string rv, .string rn, .string rd] 25) := K4_7.out.below hbw8 K4_7.out.lt
  clear HL_7 HT_7 HB_7 K3_7 K4_7
  have K7_n : Hid (Blk w8 w7.heap.size [.int .i64 qh, .int .i64 qt, .string qa, .string qv, .string qn, .string qd] 25) := by rw [← hww8]; exact blk_new _ _ _
  clear hbw8
  go_wp2_with fail
  clear hww8
  refine (kRs _).mono ?_
  rintro e w9 ⟨rfl, b9⟩
  have HL_9 : Hid (CodeAt w9 w9.heap.size a L) := code_below HL_8.out b9
  have HT_9 : Hid (Tab w9) := HT_8.out.below b9 HT_8.out.pos
  have HB_9 : Hid (Below w0.heap.size w0 w9) := HB_8.out.trans (b9.mono HB_8.out.size)
  have K3_9 : Hid (Blk w9 w1.heap.size [.int .i64 yh, .int .i64 yt, .string ya, .string yv, .string yn, .string yd] 25) := K3_8.out.below b9 K3_8.out.lt
  have K4_9 : Hid (Blk w9 w4.heap.size [.int .i64 rh, .int .i64 rt, .string ra, .string rv, .string rn, .string rd] 25) := K4_8.out.below b9 K4_8.out.lt
  have K7_9 : Hid (Blk w9 w7.heap.size [.int .i64 qh, .int .i64 qt, .string qa, .string qv, .string qn, .string qd] 25) := K7_n.out.below b9 K7_n.out.lt
  clear HL_8 HT_8 HB_8 K3_8 K4_8 K7_n
  clear b9 kRs
  obtain ⟨w10, hww10⟩ : ∃ W, w9.alloc (.cells [.int .i64 qh, .int .i64 qt, .string qa, .string qv, .string qn, .string qd].toArray 25) = W := ⟨_, rfl⟩
  have hbw10 : Below w9.heap.size w9 w10 := by rw [← hww10]; exact below_one _ _
  have HL_10 : Hid (CodeAt w10 w10.heap.size a L) := code_below HL_9.out hbw10
  have HT_10 : Hid (Tab w10) := HT_9.out.below hbw10 HT_9.out.pos
  have HB_10 : Hid (Below w0.heap.size w0 w10) := HB_9.out.trans (hbw10.mono HB_9.out.size)
  have K3_10 : Hid (Blk w10 w1.heap.size [.int .i64 yh, .int .i64 yt, .string ya, .string yv, .string yn, .string yd] 25) := K3_9.out.below hbw10 K3_9.out.lt
  have K4_10 : Hid (Blk w10 w4.heap.size [.int .i64 rh, .int .i64 rt, .string ra, .string rv, .string rn, .string rd] 25) := K4_9.out.below hbw10 K4_9.out.lt
  have K7_10 : Hid (Blk w10 w7.heap.size [.int .i64 qh, .int .i64 qt, .string qa, .string qv, .string qn, .string qd] 25) := K7_9.out.below hbw10 K7_9.out.lt
  clear HL_9 HT_9 HB_9 K3_9 K4_9 K7_9
  clear hbw10
  go_wp2_with fail
  clear hww10
  refine (draw_sc a L cap w10 HL_10.out hlen).mono ?_
  rintro e w11 ⟨⟨xh, xr, xi, xl⟩, xa, xc, rfl, HX, HSX, HBc⟩
  have HL_11 : Hid (CodeAt w11 w11.heap.size a L) := code_below HL_10.out HBc.out
  have HT_11 : Hid (Tab w11) := HT_10.out.below HBc.out HT_10.out.pos
  have HB_11 : Hid (Below w0.heap.size w0 w11) := HB_10.out.trans (HBc.out.mono HB_10.out.size)
  have K3_11 : Hid (Blk w11 w1.heap.size [.int .i64 yh, .int .i64 yt, .string ya, .string yv, .string yn, .string yd] 25) := K3_10.out.below HBc.out K3_10.out.lt
  have K4_11 : Hid (Blk w11 w4.heap.size [.int .i64 rh, .int .i64 rt, .string ra, .string rv, .string rn, .string rd] 25) := K4_10.out.below HBc.out K4_10.out.lt
  have K7_11 : Hid (Blk w11 w7.heap.size [.int .i64 qh, .int .i64 qt, .string qa, .string qv, .string qn, .string qd] 25) := K7_10.out.below HBc.out K7_10.out.lt
  clear HL_10 HT_10 HB_10 K3_10 K4_10 K7_10
  clear HBc
  have HZX : Hid (SzOk ⟨xh, xr, xi, xl⟩) := ⟨by have := HX.out.1; omega, by have := HX.out.2.1; omega, fun z hz => by have := HX.out.2.2 z hz; omega⟩
  have kSi := fun W (h : SO W xa xl) => impl_showC ⟨xh, xr, xi, xl⟩ xa xc W h HZX.out
  have kSs := fun W (h : SO W xa xl) => spec_showC ⟨xh, xr, xi, xl⟩ xa xc W h HZX.out
  have hzt := showC_size ⟨xh, xr, xi, xl⟩
  have hE : Hid (_ = _) := rdC_of ⟨xh, xr, xi, xl⟩
  generalize showC ⟨xh, xr, xi, xl⟩ = t at *
  have kRc := fun W => impl_readC t W (by omega)
  have hK : Hid (_ → _) := rdC_back t
  generalize rdC t = TT at *
  obtain ⟨⟨zh, zr, zi, zl⟩, read⟩ := TT
  unfold cV cQ at *
  simp only at HSX kSi kSs kRc hK hE ⊢
  obtain ⟨w12, hww12⟩ : ∃ W, w11.alloc (.cells [.int .i64 xh, .int .i64 xr, .string xi, .slice xa xl.length xc].toArray 33) = W := ⟨_, rfl⟩
  have hbw12 : Below w11.heap.size w11 w12 := by rw [← hww12]; exact below_one _ _
  have HL_12 : Hid (CodeAt w12 w12.heap.size a L) := code_below HL_11.out hbw12
  have HT_12 : Hid (Tab w12) := HT_11.out.below hbw12 HT_11.out.pos
  have HB_12 : Hid (Below w0.heap.size w0 w12) := HB_11.out.trans (hbw12.mono HB_11.out.size)
  have K3_12 : Hid (Blk w12 w1.heap.size [.int .i64 yh, .int .i64 yt, .string ya, .string yv, .string yn, .string yd] 25) := K3_11.out.below hbw12 K3_11.out.lt
  have K4_12 : Hid (Blk w12 w4.heap.size [.int .i64 rh, .int .i64 rt, .string ra, .string rv, .string rn, .string rd] 25) := K4_11.out.below hbw12 K4_11.out.lt
  have K7_12 : Hid (Blk w12 w7.heap.size [.int .i64 qh, .int .i64 qt, .string qa, .string qv, .string qn, .string qd] 25) := K7_11.out.below hbw12 K7_11.out.lt
  have HSX_12 : Hid (SO w12 xa xl) := SO.below HSX.out hbw12
  clear HL_11 HT_11 HB_11 K3_11 K4_11 K7_11 HSX
  have K11_n : Hid (Blk w12 w11.heap.size [.int .i64 xh, .int .i64 xr, .string xi, .slice xa xl.length xc] 33) := by rw [← hww12]; exact blk_new _ _ _
  clear hbw12
  have pK110 := K11_n.out.cell 0 rfl
  have pK111 := K11_n.out.cell 1 rfl
  have pK112 := K11_n.out.cell 2 rfl
  have pK113 := K11_n.out.cell 3 rfl
  go_wp2_with fail
  clear hww12
  refine (kSi _ HSX_12.out).mono ?_
  rintro e w13 ⟨rfl, b13⟩
  have HL_13 : Hid (CodeAt w13 w13.heap.size a L) := code_below HL_12.out b13
  have HT_13 : Hid (Tab w13) := HT_12.out.below b13 HT_12.out.pos
  have HB_13 : Hid (Below w0.heap.size w0 w13) := HB_12.out.trans (b13.mono HB_12.out.size)
  have K3_13 : Hid (Blk w13 w1.heap.size [.int .i64 yh, .int .i64 yt, .string ya, .string yv, .string yn, .string yd] 25) := K3_12.out.below b13 K3_12.out.lt
  have K4_13 : Hid (Blk w13 w4.heap.size [.int .i64 rh, .int .i64 rt, .string ra, .string rv, .string rn, .string rd] 25) := K4_12.out.below b13 K4_12.out.lt
  have K7_13 : Hid (Blk w13 w7.heap.size [.int .i64 qh, .int .i64 qt, .string qa, .string qv, .string qn, .string qd] 25) := K7_12.out.below b13 K7_12.out.lt
  have HSX_13 : Hid (SO w13 xa xl) := SO.below HSX_12.out b13
  have K11_13 : Hid (Blk w13 w11.heap.size [.int .i64 xh, .int .i64 xr, .string xi, .slice xa xl.length xc] 33) := K11_n.out.below b13 K11_n.out.lt
  clear HL_12 HT_12 HB_12 K3_12 K4_12 K7_12 HSX_12 K11_n
  clear b13 kSi HZX HX pK110 pK111 pK112 pK113
  go_wp2_with fail
  refine (kRc _).mono ?_
  rintro e w14 ⟨zq, rfl, HOz, b14⟩
  have HL_14 : Hid (CodeAt w14 w14.heap.size a L) := code_below HL_13.out b14
  have HT_14 : Hid (Tab w14) := HT_13.out.below b14 HT_13.out.pos
  have HB_14 : Hid (Below w0.heap.size w0 w14) := HB_13.out.trans (b14.mono HB_13.out.size)
  have K3_14 : Hid (Blk w14 w1.heap.size [.int .i64 yh, .int .i64 yt, .string ya, .string yv, .string yn, .string yd] 25) := K3_13.out.below b14 K3_13.out.lt
  have K4_14 : Hid (Blk w14 w4.heap.size [.int .i64 rh, .int .i64 rt, .string ra, .string rv, .string rn, .string rd] 25) := K4_13.out.below b14 K4_13.out.lt
  have K7_14 : Hid (Blk w14 w7.heap.size [.int .i64 qh, .int .i64 qt, .string qa, .string qv, .string qn, .string qd] 25) := K7_13.out.below b14 K7_13.out.lt
  have HSX_14 : Hid (SO w14 xa xl) := SO.below HSX_13.out b14
  have K11_14 : Hid (Blk w14 w11.heap.size [.int .i64 xh, .int .i64 xr, .string xi, .slice xa xl.length xc] 33) := K11_13.out.below b14 K11_13.out.lt
  clear HL_13 HT_13 HB_13 K3_13 K4_13 K7_13 HSX_13 K11_13
  clear b14 kRc
  obtain ⟨za, zc, rfl⟩ := own_shape HOz
  have HSZ : Hid (SO w14 za zl) := (OwnS.sl HOz).1
  clear HOz
  obtain ⟨w15, hww15⟩ : ∃ W, w14.alloc (.cells [.int .i64 zh, .int .i64 zr, .string zi, .slice za zl.length zc].toArray 33) = W := ⟨_, rfl⟩
  have hbw15 : Below w14.heap.size w14 w15 := by rw [← hww15]; exact below_one _ _
  have HL_15 : Hid (CodeAt w15 w15.heap.size a L) := code_below HL_14.out hbw15
  have HT_15 : Hid (Tab w15) := HT_14.out.below hbw15 HT_14.out.pos
  have HB_15 : Hid (Below w0.heap.size w0 w15) := HB_14.out.trans (hbw15.mono HB_14.out.size)
  have K3_15 : Hid (Blk w15 w1.heap.size [.int .i64 yh, .int .i64 yt, .string ya, .string yv, .string yn, .string yd] 25) := K3_14.out.below hbw15 K3_14.out.lt
  have K4_15 : Hid (Blk w15 w4.heap.size [.int .i64 rh, .int .i64 rt, .string ra, .string rv, .string rn, .string rd] 25) := K4_14.out.below hbw15 K4_14.out.lt
  have K7_15 : Hid (Blk w15 w7.heap.size [.int .i64 qh, .int .i64 qt, .string qa, .string qv, .string qn, .string qd] 25) := K7_14.out.below hbw15 K7_14.out.lt
  have HSX_15 : Hid (SO w15 xa xl) := SO.below HSX_14.out hbw15
  have K11_15 : Hid (Blk w15 w11.heap.size [.int .i64 xh, .int .i64 xr, .string xi, .slice xa xl.length xc] 33) := K11_14.out.below hbw15 K11_14.out.lt
  have HSZ_15 : Hid (SO w15 za zl) := SO.below HSZ.out hbw15
  clear HL_14 HT_14 HB_14 K3_14 K4_14 K7_14 HSX_14 K11_14 HSZ
  have K13_n : Hid (Blk w15 w14.heap.size [.int .i64 zh, .int .i64 zr, .string zi, .slice za zl.length zc] 33) := by rw [← hww15]; exact blk_new _ _ _
  clear hbw15
  go_wp2_with fail
  clear hww15
  refine (draw_rc a L cap w15 HL_15.out hlen).mono ?_
  rintro e w16 ⟨u, rfl, HZu, HBd⟩
  have HL_16 : Hid (CodeAt w16 w16.heap.size a L) := code_below HL_15.out HBd.out
  have HT_16 : Hid (Tab w16) := HT_15.out.below HBd.out HT_15.out.pos
  have HB_16 : Hid (Below w0.heap.size w0 w16) := HB_15.out.trans (HBd.out.mono HB_15.out.size)
  have K3_16 : Hid (Blk w16 w1.heap.size [.int .i64 yh, .int .i64 yt, .string ya, .string yv, .string yn, .string yd] 25) := K3_15.out.below HBd.out K3_15.out.lt
  have K4_16 : Hid (Blk w16 w4.heap.size [.int .i64 rh, .int .i64 rt, .string ra, .string rv, .string rn, .string rd] 25) := K4_15.out.below HBd.out K4_15.out.lt
  have K7_16 : Hid (Blk w16 w7.heap.size [.int .i64 qh, .int .i64 qt, .string qa, .string qv, .string qn, .string qd] 25) := K7_15.out.below HBd.out K7_15.out.lt
  have HSX_16 : Hid (SO w16 xa xl) := SO.below HSX_15.out HBd.out
  have K11_16 : Hid (Blk w16 w11.heap.size [.int .i64 xh, .int .i64 xr, .string xi, .slice xa xl.length xc] 33) := K11_15.out.below HBd.out K11_15.out.lt
  have HSZ_16 : Hid (SO w16 za zl) := SO.below HSZ_15.out HBd.out
  have K13_16 : Hid (Blk w16 w14.heap.size [.int .i64 zh, .int .i64 zr, .string zi, .slice za zl.length zc] 33) := K13_n.out.below HBd.out K13_n.out.lt
  clear HL_15 HT_15 HB_15 K3_15 K4_15 K7_15 HSX_15 K11_15 HSZ_15 K13_n
  clear HBd
  have kUi := fun W => impl_readC u W (by have := HZu.out; omega)
  have kUs := fun W => spec_readC u W (by have := HZu.out; omega)
  have hU : Hid (_ → _) := rdC_back u
  generalize rdC u = UU at *
  obtain ⟨⟨uh, ur, ui, ul⟩, whole⟩ := UU
  unfold cQ at kUi kUs
  simp only at kUi kUs hU
  go_wp2_with fail
  refine (kUi _).mono ?_
  rintro e w17 ⟨uq, rfl, HOu, b17⟩
  have HL_17 : Hid (CodeAt w17 w17.heap.size a L) := code_below HL_16.out b17
  have HT_17 : Hid (Tab w17) := HT_16.out.below b17 HT_16.out.pos
  have HB_17 : Hid (Below w0.heap.size w0 w17) := HB_16.out.trans (b17.mono HB_16.out.size)
  have K3_17 : Hid (Blk w17 w1.heap.size [.int .i64 yh, .int .i64 yt, .string ya, .string yv, .string yn, .string yd] 25) := K3_16.out.below b17 K3_16.out.lt
  have K4_17 : Hid (Blk w17 w4.heap.size [.int .i64 rh, .int .i64 rt, .string ra, .string rv, .string rn, .string rd] 25) := K4_16.out.below b17 K4_16.out.lt
  have K7_17 : Hid (Blk w17 w7.heap.size [.int .i64 qh, .int .i64 qt, .string qa, .string qv, .string qn, .string qd] 25) := K7_16.out.below b17 K7_16.out.lt
  have HSX_17 : Hid (SO w17 xa xl) := SO.below HSX_16.out b17
  have K11_17 : Hid (Blk w17 w11.heap.size [.int .i64 xh, .int .i64 xr, .string xi, .slice xa xl.length xc] 33) := K11_16.out.below b17 K11_16.out.lt
  have HSZ_17 : Hid (SO w17 za zl) := SO.below HSZ_16.out b17
  have K13_17 : Hid (Blk w17 w14.heap.size [.int .i64 zh, .int .i64 zr, .string zi, .slice za zl.length zc] 33) := K13_16.out.below b17 K13_16.out.lt
  clear HL_16 HT_16 HB_16 K3_16 K4_16 K7_16 HSX_16 K11_16 HSZ_16 K13_16
  clear b17 kUi HZu
  obtain ⟨ua, uc, rfl⟩ := own_shape HOu
  have HSU : Hid (SO w17 ua ul) := (OwnS.sl HOu).1
  clear HOu
  obtain ⟨w18, hww18⟩ : ∃ W, w17.alloc (.cells [.int .i64 uh, .int .i64 ur, .string ui, .slice ua ul.length uc].toArray 33) = W := ⟨_, rfl⟩
  have hbw18 : Below w17.heap.size w17 w18 := by rw [← hww18]; exact below_one _ _
  have HL_18 : Hid (CodeAt w18 w18.heap.size a L) := code_below HL_17.out hbw18
  have HT_18 : Hid (Tab w18) := HT_17.out.below hbw18 HT_17.out.pos
  have HB_18 : Hid (Below w0.heap.size w0 w18) := HB_17.out.trans (hbw18.mono HB_17.out.size)
  have K3_18 : Hid (Blk w18 w1.heap.size [.int .i64 yh, .int .i64 yt, .string ya, .string yv, .string yn, .string yd] 25) := K3_17.out.below hbw18 K3_17.out.lt
  have K4_18 : Hid (Blk w18 w4.heap.size [.int .i64 rh, .int .i64 rt, .string ra, .string rv, .string rn, .string rd] 25) := K4_17.out.below hbw18 K4_17.out.lt
  have K7_18 : Hid (Blk w18 w7.heap.size [.int .i64 qh, .int .i64 qt, .string qa, .string qv, .string qn, .string qd] 25) := K7_17.out.below hbw18 K7_17.out.lt
  have HSX_18 : Hid (SO w18 xa xl) := SO.below HSX_17.out hbw18
  have K11_18 : Hid (Blk w18 w11.heap.size [.int .i64 xh, .int .i64 xr, .string xi, .slice xa xl.length xc] 33) := K11_17.out.below hbw18 K11_17.out.lt
  have HSZ_18 : Hid (SO w18 za zl) := SO.below HSZ_17.out hbw18
  have K13_18 : Hid (Blk w18 w14.heap.size [.int .i64 zh, .int .i64 zr, .string zi, .slice za zl.length zc] 33) := K13_17.out.below hbw18 K13_17.out.lt
  have HSU_18 : Hid (SO w18 ua ul) := SO.below HSU.out hbw18
  clear HL_17 HT_17 HB_17 K3_17 K4_17 K7_17 HSX_17 K11_17 HSZ_17 K13_17 HSU
  have K16_n : Hid (Blk w18 w17.heap.size [.int .i64 uh, .int .i64 ur, .string ui, .slice ua ul.length uc] 33) := by rw [← hww18]; exact blk_new _ _ _
  clear hbw18
  go_wp2_with fail
  clear hww18
  refine (kUs _).mono ?_
  rintro e w19 ⟨sq, rfl, HOs, b19⟩
  have HL_19 : Hid (CodeAt w19 w19.heap.size a L) := code_below HL_18.out b19
  have HT_19 : Hid (Tab w19) := HT_18.out.below b19 HT_18.out.pos
  have HB_19 : Hid (Below w0.heap.size w0 w19) := HB_18.out.trans (b19.mono HB_18.out.size)
  have K3_19 : Hid (Blk w19 w1.heap.size [.int .i64 yh, .int .i64 yt, .string ya, .string yv, .string yn, .string yd] 25) := K3_18.out.below b19 K3_18.out.lt
  have K4_19 : Hid (Blk w19 w4.heap.size [.int .i64 rh, .int .i64 rt, .string ra, .string rv, .string rn, .string rd] 25) := K4_18.out.below b19 K4_18.out.lt
  have K7_19 : Hid (Blk w19 w7.heap.size [.int .i64 qh, .int .i64 qt, .string qa, .string qv, .string qn, .string qd] 25) := K7_18.out.below b19 K7_18.out.lt
  have HSX_19 : Hid (SO w19 xa xl) := SO.below HSX_18.out b19
  have K11_19 : Hid (Blk w19 w11.heap.size [.int .i64 xh, .int .i64 xr, .string xi, .slice xa xl.length xc] 33) := K11_18.out.below b19 K11_18.out.lt
  have HSZ_19 : Hid (SO w19 za zl) := SO.below HSZ_18.out b19
  have K13_19 : Hid (Blk w19 w14.heap.size [.int .i64 zh, .int .i64 zr, .string zi, .slice za zl.length zc] 33) := K13_18.out.below b19 K13_18.out.lt
  have HSU_19 : Hid (SO w19 ua ul) := SO.below HSU_18.out b19
  have K16_19 : Hid (Blk w19 w17.heap.size [.int .i64 uh, .int .i64 ur, .string ui, .slice ua ul.length uc] 33) := K16_n.out.below b19 K16_n.out.lt
  clear HL_18 HT_18 HB_18 K3_18 K4_18 K7_18 HSX_18 K11_18 HSZ_18 K13_18 HSU_18 K16_n
  clear b19 kUs
  obtain ⟨sa, sc, rfl⟩ := own_shape HOs
  clear HOs
  obtain ⟨w20, hww20⟩ : ∃ W, w19.alloc (.cells [.int .i64 uh, .int .i64 ur, .string ui, .slice sa ul.length sc].toArray 33) = W := ⟨_, rfl⟩
  have hbw20 : Below w19.heap.size w19 w20 := by rw [← hww20]; exact below_one _ _
  have HL_20 : Hid (CodeAt w20 w20.heap.size a L) := code_below HL_19.out hbw20
  have HT_20 : Hid (Tab w20) := HT_19.out.below hbw20 HT_19.out.pos
  have HB_20 : Hid (Below w0.heap.size w0 w20) := HB_19.out.trans (hbw20.mono HB_19.out.size)
  have K3_20 : Hid (Blk w20 w1.heap.size [.int .i64 yh, .int .i64 yt, .string ya, .string yv, .string yn, .string yd] 25) := K3_19.out.below hbw20 K3_19.out.lt
  have K4_20 : Hid (Blk w20 w4.heap.size [.int .i64 rh, .int .i64 rt, .string ra, .string rv, .string rn, .string rd] 25) := K4_19.out.below hbw20 K4_19.out.lt
  have K7_20 : Hid (Blk w20 w7.heap.size [.int .i64 qh, .int .i64 qt, .string qa, .string qv, .string qn, .string qd] 25) := K7_19.out.below hbw20 K7_19.out.lt
  have HSX_20 : Hid (SO w20 xa xl) := SO.below HSX_19.out hbw20
  have K11_20 : Hid (Blk w20 w11.heap.size [.int .i64 xh, .int .i64 xr, .string xi, .slice xa xl.length xc] 33) := K11_19.out.below hbw20 K11_19.out.lt
  have HSZ_20 : Hid (SO w20 za zl) := SO.below HSZ_19.out hbw20
  have K13_20 : Hid (Blk w20 w14.heap.size [.int .i64 zh, .int .i64 zr, .string zi, .slice za zl.length zc] 33) := K13_19.out.below hbw20 K13_19.out.lt
  have HSU_20 : Hid (SO w20 ua ul) := SO.below HSU_19.out hbw20
  have K16_20 : Hid (Blk w20 w17.heap.size [.int .i64 uh, .int .i64 ur, .string ui, .slice ua ul.length uc] 33) := K16_19.out.below hbw20 K16_19.out.lt
  clear HL_19 HT_19 HB_19 K3_19 K4_19 K7_19 HSX_19 K11_19 HSZ_19 K13_19 HSU_19 K16_19
  clear hbw20
  go_upto_region 14 with fail
  clear hww20
  go_cut [105] (fun s wx => s = .bool false ∧ Hid (Below w20.heap.size w20 wx))
  case first =>
    have hneg := guardH
    have hrun := fun W => run_neH yh yt ya yv yn yd W
    obtain ⟨hok, hisy⟩ := hR.out
    clear hR kI kJ
    subst hok
    rcases is with _ | _
    · rcases fine with _ | _
      · rcases read with _ | _
        · have ht : t.toList.isEmpty = true := hE.out
          clear hisy hE hK hU
          clear hQ
          have pK30 := K3_20.out.cell 0 rfl
          have pK31 := K3_20.out.cell 1 rfl
          have pK32 := K3_20.out.cell 2 rfl
          have pK33 := K3_20.out.cell 3 rfl
          have pK34 := K3_20.out.cell 4 rfl
          have pK35 := K3_20.out.cell 5 rfl
          have pK40 := K4_20.out.cell 0 rfl
          have pK41 := K4_20.out.cell 1 rfl
          have pK42 := K4_20.out.cell 2 rfl
          have pK43 := K4_20.out.cell 3 rfl
          have pK44 := K4_20.out.cell 4 rfl
          have pK45 := K4_20.out.cell 5 rfl
          go_wp2_with fail
          refine (kO _).mono ?_
          rintro e v1 ⟨rfl, b1⟩
          have K3_21 : Hid (Blk v1 w1.heap.size [.int .i64 yh, .int .i64 yt, .string ya, .string yv, .string yn, .string yd] 25) := K3_20.out.below b1 K3_20.out.lt
          have K4_21 : Hid (Blk v1 w4.heap.size [.int .i64 rh, .int .i64 rt, .string ra, .string rv, .string rn, .string rd] 25) := K4_20.out.below b1 K4_20.out.lt
          have K7_21 : Hid (Blk v1 w7.heap.size [.int .i64 qh, .int .i64 qt, .string qa, .string qv, .string qn, .string qd] 25) := K7_20.out.below b1 K7_20.out.lt
          have HSX_21 : Hid (SO v1 xa xl) := SO.below HSX_20.out b1
          have K11_21 : Hid (Blk v1 w11.heap.size [.int .i64 xh, .int .i64 xr, .string xi, .slice xa xl.length xc] 33) := K11_20.out.below b1 K11_20.out.lt
          clear K3_20 K4_20 K7_20 HSX_20 K11_20
          clear pK30 pK31 pK32 pK33 pK34 pK35 pK40 pK41 pK42 pK43 pK44 pK45
          have pK30 := K3_21.out.cell 0 rfl
          have pK31 := K3_21.out.cell 1 rfl
          have pK32 := K3_21.out.cell 2 rfl
          have pK33 := K3_21.out.cell 3 rfl
          have pK34 := K3_21.out.cell 4 rfl
          have pK35 := K3_21.out.cell 5 rfl
          have pK40 := K4_21.out.cell 0 rfl
          have pK41 := K4_21.out.cell 1 rfl
          have pK42 := K4_21.out.cell 2 rfl
          have pK43 := K4_21.out.cell 3 rfl
          have pK44 := K4_21.out.cell 4 rfl
          have pK45 := K4_21.out.cell 5 rfl
          have pK70 := K7_21.out.cell 0 rfl
          have pK71 := K7_21.out.cell 1 rfl
          have pK72 := K7_21.out.cell 2 rfl
          have pK73 := K7_21.out.cell 3 rfl
          have pK74 := K7_21.out.cell 4 rfl
          have pK75 := K7_21.out.cell 5 rfl
          have pK110 := K11_21.out.cell 0 rfl
          have pK111 := K11_21.out.cell 1 rfl
          have pK112 := K11_21.out.cell 2 rfl
          have pK113 := K11_21.out.cell 3 rfl
          have b12 : Below w20.heap.size w20 v1 := b1
          go_wp2_with fail
          refine (kSs _ HSX_21.out).mono ?_
          rintro e v3 ⟨rfl, b3⟩
          have HBx : Hid (Below w20.heap.size w20 v3) := b12.trans (b3.mono b12.size)
          clear b12 b3 b1 pK30 pK31 pK32 pK33 pK34 pK35 pK40 pK41 pK42 pK43 pK44 pK45 pK70 pK71 pK72 pK73 pK74 pK75 pK110 pK111 pK112 pK113
          go_wp2_with fail
          go_meet
          exact ⟨rfl, HBx⟩
        · have ht : t.toList.isEmpty = false := hE.out
          clear hisy hE hK hU
          clear hQ
          have pK30 := K3_20.out.cell 0 rfl
          have pK31 := K3_20.out.cell 1 rfl
          have pK32 := K3_20.out.cell 2 rfl
          have pK33 := K3_20.out.cell 3 rfl
          have pK34 := K3_20.out.cell 4 rfl
          have pK35 := K3_20.out.cell 5 rfl
          have pK40 := K4_20.out.cell 0 rfl
          have pK41 := K4_20.out.cell 1 rfl
          have pK42 := K4_20.out.cell 2 rfl
          have pK43 := K4_20.out.cell 3 rfl
          have pK44 := K4_20.out.cell 4 rfl
          have pK45 := K4_20.out.cell 5 rfl
          go_wp2_with fail
          refine (kO _).mono ?_
          rintro e v1 ⟨rfl, b1⟩
          have K3_22 : Hid (Blk v1 w1.heap.size [.int .i64 yh, .int .i64 yt, .string ya, .string yv, .string yn, .string yd] 25) := K3_20.out.below b1 K3_20.out.lt
          have K4_22 : Hid (Blk v1 w4.heap.size [.int .i64 rh, .int .i64 rt, .string ra, .string rv, .string rn, .string rd] 25) := K4_20.out.below b1 K4_20.out.lt
          have K7_22 : Hid (Blk v1 w7.heap.size [.int .i64 qh, .int .i64 qt, .string qa, .string qv, .string qn, .string qd] 25) := K7_20.out.below b1 K7_20.out.lt
          have HSX_22 : Hid (SO v1 xa xl) := SO.below HSX_20.out b1
          have K11_22 : Hid (Blk v1 w11.heap.size [.int .i64 xh, .int .i64 xr, .string xi, .slice xa xl.length xc] 33) := K11_20.out.below b1 K11_20.out.lt
          clear K3_20 K4_20 K7_20 HSX_20 K11_20
          clear pK30 pK31 pK32 pK33 pK34 pK35 pK40 pK41 pK42 pK43 pK44 pK45
          have pK30 := K3_22.out.cell 0 rfl
          have pK31 := K3_22.out.cell 1 rfl
          have pK32 := K3_22.out.cell 2 rfl
          have pK33 := K3_22.out.cell 3 rfl
          have pK34 := K3_22.out.cell 4 rfl
          have pK35 := K3_22.out.cell 5 rfl
          have pK40 := K4_22.out.cell 0 rfl
          have pK41 := K4_22.out.cell 1 rfl
          have pK42 := K4_22.out.cell 2 rfl
          have pK43 := K4_22.out.cell 3 rfl
          have pK44 := K4_22.out.cell 4 rfl
          have pK45 := K4_22.out.cell 5 rfl
          have pK70 := K7_22.out.cell 0 rfl
          have pK71 := K7_22.out.cell 1 rfl
          have pK72 := K7_22.out.cell 2 rfl
          have pK73 := K7_22.out.cell 3 rfl
          have pK74 := K7_22.out.cell 4 rfl
          have pK75 := K7_22.out.cell 5 rfl
          have pK110 := K11_22.out.cell 0 rfl
          have pK111 := K11_22.out.cell 1 rfl
          have pK112 := K11_22.out.cell 2 rfl
          have pK113 := K11_22.out.cell 3 rfl
          have b12 : Below w20.heap.size w20 v1 := b1
          go_wp2_with fail
          refine (kSs _ HSX_22.out).mono ?_
          rintro e v3 ⟨rfl, b3⟩
          have HBx : Hid (Below w20.heap.size w20 v3) := b12.trans (b3.mono b12.size)
          clear b12 b3 b1 pK30 pK31 pK32 pK33 pK34 pK35 pK40 pK41 pK42 pK43 pK44 pK45 pK70 pK71 pK72 pK73 pK74 pK75 pK110 pK111 pK112 pK113
          go_wp2_with fail
          go_meet
          exact ⟨rfl, HBx⟩
      · rcases read with _ | _
        · have ht : t.toList.isEmpty = true := hE.out
          clear hisy hE hK hU
          obtain rfl := hQ.out rfl
          clear hQ
          have pK30 := K3_20.out.cell 0 rfl
          have pK31 := K3_20.out.cell 1 rfl
          have pK32 := K3_20.out.cell 2 rfl
          have pK33 := K3_20.out.cell 3 rfl
          have pK34 := K3_20.out.cell 4 rfl
          have pK35 := K3_20.out.cell 5 rfl
          have pK40 := K4_20.out.cell 0 rfl
          have pK41 := K4_20.out.cell 1 rfl
          have pK42 := K4_20.out.cell 2 rfl
          have pK43 := K4_20.out.cell 3 rfl
          have pK44 := K4_20.out.cell 4 rfl
          have pK45 := K4_20.out.cell 5 rfl
          go_wp2_with fail
          refine (kO _).mono ?_
          rintro e v1 ⟨rfl, b1⟩
          have K3_23 : Hid (Blk v1 w1.heap.size [.int .i64 yh, .int .i64 yt, .string ya, .string yv, .string yn, .string yd] 25) := K3_20.out.below b1 K3_20.out.lt
          have K4_23 : Hid (Blk v1 w4.heap.size [.int .i64 rh, .int .i64 rt, .string ra, .string rv, .string rn, .string rd] 25) := K4_20.out.below b1 K4_20.out.lt
          have K7_23 : Hid (Blk v1 w7.heap.size [.int .i64 qh, .int .i64 qt, .string qa, .string qv, .string qn, .string qd] 25) := K7_20.out.below b1 K7_20.out.lt
          have HSX_23 : Hid (SO v1 xa xl) := SO.below HSX_20.out b1
          have K11_23 : Hid (Blk v1 w11.heap.size [.int .i64 xh, .int .i64 xr, .string xi, .slice xa xl.length xc] 33) := K11_20.out.below b1 K11_20.out.lt
          clear K3_20 K4_20 K7_20 HSX_20 K11_20
          clear pK30 pK31 pK32 pK33 pK34 pK35 pK40 pK41 pK42 pK43 pK44 pK45
          have pK30 := K3_23.out.cell 0 rfl
          have pK31 := K3_23.out.cell 1 rfl
          have pK32 := K3_23.out.cell 2 rfl
          have pK33 := K3_23.out.cell 3 rfl
          have pK34 := K3_23.out.cell 4 rfl
          have pK35 := K3_23.out.cell 5 rfl
          have pK40 := K4_23.out.cell 0 rfl
          have pK41 := K4_23.out.cell 1 rfl
          have pK42 := K4_23.out.cell 2 rfl
          have pK43 := K4_23.out.cell 3 rfl
          have pK44 := K4_23.out.cell 4 rfl
          have pK45 := K4_23.out.cell 5 rfl
          have pK70 := K7_23.out.cell 0 rfl
          have pK71 := K7_23.out.cell 1 rfl
          have pK72 := K7_23.out.cell 2 rfl
          have pK73 := K7_23.out.cell 3 rfl
          have pK74 := K7_23.out.cell 4 rfl
          have pK75 := K7_23.out.cell 5 rfl
          have pK110 := K11_23.out.cell 0 rfl
          have pK111 := K11_23.out.cell 1 rfl
          have pK112 := K11_23.out.cell 2 rfl
          have pK113 := K11_23.out.cell 3 rfl
          go_wp2_with fail
          refine (kSq _).mono ?_
          rintro e v2 ⟨rfl, b2⟩
          have K3_24 : Hid (Blk v2 w1.heap.size [.int .i64 yh, .int .i64 yt, .string ya, .string yv, .string yn, .string yd] 25) := K3_23.out.below b2 K3_23.out.lt
          have K4_24 : Hid (Blk v2 w4.heap.size [.int .i64 rh, .int .i64 rt, .string ra, .string rv, .string rn, .string rd] 25) := K4_23.out.below b2 K4_23.out.lt
          have K7_24 : Hid (Blk v2 w7.heap.size [.int .i64 qh, .int .i64 qt, .string qa, .string qv, .string qn, .string qd] 25) := K7_23.out.below b2 K7_23.out.lt
          have HSX_24 : Hid (SO v2 xa xl) := SO.below HSX_23.out b2
          have K11_24 : Hid (Blk v2 w11.heap.size [.int .i64 xh, .int .i64 xr, .string xi, .slice xa xl.length xc] 33) := K11_23.out.below b2 K11_23.out.lt
          clear K3_23 K4_23 K7_23 HSX_23 K11_23
          clear pK30 pK31 pK32 pK33 pK34 pK35 pK40 pK41 pK42 pK43 pK44 pK45 pK70 pK71 pK72 pK73 pK74 pK75 pK110 pK111 pK112 pK113
          have pK110 := K11_24.out.cell 0 rfl
          have pK111 := K11_24.out.cell 1 rfl
          have pK112 := K11_24.out.cell 2 rfl
          have pK113 := K11_24.out.cell 3 rfl
          have b12 : Below w20.heap.size w20 v2 := b1.trans (b2.mono b1.size)
          go_wp2_with fail
          refine (kSs _ HSX_24.out).mono ?_
          rintro e v3 ⟨rfl, b3⟩
          have HBx : Hid (Below w20.heap.size w20 v3) := b12.trans (b3.mono b12.size)
          clear b12 b3 b1 pK110 pK111 pK112 pK113
          go_wp2_with fail
          go_meet
          exact ⟨rfl, HBx⟩
        · have ht : t.toList.isEmpty = false := hE.out
          clear hisy hE hK hU
          obtain rfl := hQ.out rfl
          clear hQ
          have pK30 := K3_20.out.cell 0 rfl
          have pK31 := K3_20.out.cell 1 rfl
          have pK32 := K3_20.out.cell 2 rfl
          have pK33 := K3_20.out.cell 3 rfl
          have pK34 := K3_20.out.cell 4 rfl
          have pK35 := K3_20.out.cell 5 rfl
          have pK40 := K4_20.out.cell 0 rfl
          have pK41 := K4_20.out.cell 1 rfl
          have pK42 := K4_20.out.cell 2 rfl
          have pK43 := K4_20.out.cell 3 rfl
          have pK44 := K4_20.out.cell 4 rfl
          have pK45 := K4_20.out.cell 5 rfl
          go_wp2_with fail
          refine (kO _).mono ?_
          rintro e v1 ⟨rfl, b1⟩
          have K3_25 : Hid (Blk v1 w1.heap.size [.int .i64 yh, .int .i64 yt, .string ya, .string yv, .string yn, .string yd] 25) := K3_20.out.below b1 K3_20.out.lt
          have K4_25 : Hid (Blk v1 w4.heap.size [.int .i64 rh, .int .i64 rt, .string ra, .string rv, .string rn, .string rd] 25) := K4_20.out.below b1 K4_20.out.lt
          have K7_25 : Hid (Blk v1 w7.heap.size [.int .i64 qh, .int .i64 qt, .string qa, .string qv, .string qn, .string qd] 25) := K7_20.out.below b1 K7_20.out.lt
          have HSX_25 : Hid (SO v1 xa xl) := SO.below HSX_20.out b1
          have K11_25 : Hid (Blk v1 w11.heap.size [.int .i64 xh, .int .i64 xr, .string xi, .slice xa xl.length xc] 33) := K11_20.out.below b1 K11_20.out.lt
          clear K3_20 K4_20 K7_20 HSX_20 K11_20
          clear pK30 pK31 pK32 pK33 pK34 pK35 pK40 pK41 pK42 pK43 pK44 pK45
          have pK30 := K3_25.out.cell 0 rfl
          have pK31 := K3_25.out.cell 1 rfl
          have pK32 := K3_25.out.cell 2 rfl
          have pK33 := K3_25.out.cell 3 rfl
          have pK34 := K3_25.out.cell 4 rfl
          have pK35 := K3_25.out.cell 5 rfl
          have pK40 := K4_25.out.cell 0 rfl
          have pK41 := K4_25.out.cell 1 rfl
          have pK42 := K4_25.out.cell 2 rfl
          have pK43 := K4_25.out.cell 3 rfl
          have pK44 := K4_25.out.cell 4 rfl
          have pK45 := K4_25.out.cell 5 rfl
          have pK70 := K7_25.out.cell 0 rfl
          have pK71 := K7_25.out.cell 1 rfl
          have pK72 := K7_25.out.cell 2 rfl
          have pK73 := K7_25.out.cell 3 rfl
          have pK74 := K7_25.out.cell 4 rfl
          have pK75 := K7_25.out.cell 5 rfl
          have pK110 := K11_25.out.cell 0 rfl
          have pK111 := K11_25.out.cell 1 rfl
          have pK112 := K11_25.out.cell 2 rfl
          have pK113 := K11_25.out.cell 3 rfl
          go_wp2_with fail
          refine (kSq _).mono ?_
          rintro e v2 ⟨rfl, b2⟩
          have K3_26 : Hid (Blk v2 w1.heap.size [.int .i64 yh, .int .i64 yt, .string ya, .string yv, .string yn, .string yd] 25) := K3_25.out.below b2 K3_25.out.lt
          have K4_26 : Hid (Blk v2 w4.heap.size [.int .i64 rh, .int .i64 rt, .string ra, .string rv, .string rn, .string rd] 25) := K4_25.out.below b2 K4_25.out.lt
          have K7_26 : Hid (Blk v2 w7.heap.size [.int .i64 qh, .int .i64 qt, .string qa, .string qv, .string qn, .string qd] 25) := K7_25.out.below b2 K7_25.out.lt
          have HSX_26 : Hid (SO v2 xa xl) := SO.below HSX_25.out b2
          have K11_26 : Hid (Blk v2 w11.heap.size [.int .i64 xh, .int .i64 xr, .string xi, .slice xa xl.length xc] 33) := K11_25.out.below b2 K11_25.out.lt
          clear K3_25 K4_25 K7_25 HSX_25 K11_25
          clear pK30 pK31 pK32 pK33 pK34 pK35 pK40 pK41 pK42 pK43 pK44 pK45 pK70 pK71 pK72 pK73 pK74 pK75 pK110 pK111 pK112 pK113
          have pK110 := K11_26.out.cell 0 rfl
          have pK111 := K11_26.out.cell 1 rfl
          have pK112 := K11_26.out.cell 2 rfl
          have pK113 := K11_26.out.cell 3 rfl
          have b12 : Below w20.heap.size w20 v2 := b1.trans (b2.mono b1.size)
          go_wp2_with fail
          refine (kSs _ HSX_26.out).mono ?_
          rintro e v3 ⟨rfl, b3⟩
          have HBx : Hid (Below w20.heap.size w20 v3) := b12.trans (b3.mono b12.size)
          clear b12 b3 b1 pK110 pK111 pK112 pK113
          go_wp2_with fail
          go_meet
          exact ⟨rfl, HBx⟩
    · rcases fine with _ | _
      · rcases read with _ | _
        · have ht : t.toList.isEmpty = true := hE.out
          obtain ⟨rfl, rfl, rfl, rfl, rfl, rfl⟩ := H.mk.inj (hisy rfl)
          clear hisy hE hK hU
          clear hQ
          have pK30 := K3_20.out.cell 0 rfl
          have pK31 := K3_20.out.cell 1 rfl
          have pK32 := K3_20.out.cell 2 rfl
          have pK33 := K3_20.out.cell 3 rfl
          have pK34 := K3_20.out.cell 4 rfl
          have pK35 := K3_20.out.cell 5 rfl
          have pK40 := K4_20.out.cell 0 rfl
          have pK41 := K4_20.out.cell 1 rfl
          have pK42 := K4_20.out.cell 2 rfl
          have pK43 := K4_20.out.cell 3 rfl
          have pK44 := K4_20.out.cell 4 rfl
          have pK45 := K4_20.out.cell 5 rfl
          go_wp2_with fail
          refine (kO _).mono ?_
          rintro e v1 ⟨rfl, b1⟩
          have K3_27 : Hid (Blk v1 w1.heap.size [.int .i64 rh, .int .i64 rt, .string ra, .string rv, .string rn, .string rd] 25) := K3_20.out.below b1 K3_20.out.lt
          have K4_27 : Hid (Blk v1 w4.heap.size [.int .i64 rh, .int .i64 rt, .string ra, .string rv, .string rn, .string rd] 25) := K4_20.out.below b1 K4_20.out.lt
          have K7_27 : Hid (Blk v1 w7.heap.size [.int .i64 qh, .int .i64 qt, .string qa, .string qv, .string qn, .string qd] 25) := K7_20.out.below b1 K7_20.out.lt
          have HSX_27 : Hid (SO v1 xa xl) := SO.below HSX_20.out b1
          have K11_27 : Hid (Blk v1 w11.heap.size [.int .i64 xh, .int .i64 xr, .string xi, .slice xa xl.length xc] 33) := K11_20.out.below b1 K11_20.out.lt
          clear K3_20 K4_20 K7_20 HSX_20 K11_20
          clear pK30 pK31 pK32 pK33 pK34 pK35 pK40 pK41 pK42 pK43 pK44 pK45
          have pK30 := K3_27.out.cell 0 rfl
          have pK31 := K3_27.out.cell 1 rfl
          have pK32 := K3_27.out.cell 2 rfl
          have pK33 := K3_27.out.cell 3 rfl
          have pK34 := K3_27.out.cell 4 rfl
          have pK35 := K3_27.out.cell 5 rfl
          have pK40 := K4_27.out.cell 0 rfl
          have pK41 := K4_27.out.cell 1 rfl
          have pK42 := K4_27.out.cell 2 rfl
          have pK43 := K4_27.out.cell 3 rfl
          have pK44 := K4_27.out.cell 4 rfl
          have pK45 := K4_27.out.cell 5 rfl
          have pK70 := K7_27.out.cell 0 rfl
          have pK71 := K7_27.out.cell 1 rfl
          have pK72 := K7_27.out.cell 2 rfl
          have pK73 := K7_27.out.cell 3 rfl
          have pK74 := K7_27.out.cell 4 rfl
          have pK75 := K7_27.out.cell 5 rfl
          have pK110 := K11_27.out.cell 0 rfl
          have pK111 := K11_27.out.cell 1 rfl
          have pK112 := K11_27.out.cell 2 rfl
          have pK113 := K11_27.out.cell 3 rfl
          have b12 : Below w20.heap.size w20 v1 := b1
          go_wp2_with fail
          refine (kSs _ HSX_27.out).mono ?_
          rintro e v3 ⟨rfl, b3⟩
          have HBx : Hid (Below w20.heap.size w20 v3) := b12.trans (b3.mono b12.size)
          clear b12 b3 b1 pK30 pK31 pK32 pK33 pK34 pK35 pK40 pK41 pK42 pK43 pK44 pK45 pK70 pK71 pK72 pK73 pK74 pK75 pK110 pK111 pK112 pK113
          go_wp2_with fail
          go_meet
          exact ⟨rfl, HBx⟩
        · have ht : t.toList.isEmpty = false := hE.out
          obtain ⟨rfl, rfl, rfl, rfl, rfl, rfl⟩ := H.mk.inj (hisy rfl)
          clear hisy hE hK hU
          clear hQ
          have pK30 := K3_20.out.cell 0 rfl
          have pK31 := K3_20.out.cell 1 rfl
          have pK32 := K3_20.out.cell 2 rfl
          have pK33 := K3_20.out.cell 3 rfl
          have pK34 := K3_20.out.cell 4 rfl
          have pK35 := K3_20.out.cell 5 rfl
          have pK40 := K4_20.out.cell 0 rfl
          have pK41 := K4_20.out.cell 1 rfl
          have pK42 := K4_20.out.cell 2 rfl
          have pK43 := K4_20.out.cell 3 rfl
          have pK44 := K4_20.out.cell 4 rfl
          have pK45 := K4_20.out.cell 5 rfl
          go_wp2_with fail
          refine (kO _).mono ?_
          rintro e v1 ⟨rfl, b1⟩
          have K3_28 : Hid (Blk v1 w1.heap.size [.int .i64 rh, .int .i64 rt, .string ra, .string rv, .string rn, .string rd] 25) := K3_20.out.below b1 K3_20.out.lt
          have K4_28 : Hid (Blk v1 w4.heap.size [.int .i64 rh, .int .i64 rt, .string ra, .string rv, .string rn, .string rd] 25) := K4_20.out.below b1 K4_20.out.lt
          have K7_28 : Hid (Blk v1 w7.heap.size [.int .i64 qh, .int .i64 qt, .string qa, .string qv, .string qn, .string qd] 25) := K7_20.out.below b1 K7_20.out.lt
          have HSX_28 : Hid (SO v1 xa xl) := SO.below HSX_20.out b1
          have K11_28 : Hid (Blk v1 w11.heap.size [.int .i64 xh, .int .i64 xr, .string xi, .slice xa xl.length xc] 33) := K11_20.out.below b1 K11_20.out.lt
          clear K3_20 K4_20 K7_20 HSX_20 K11_20
          clear pK30 pK31 pK32 pK33 pK34 pK35 pK40 pK41 pK42 pK43 pK44 pK45
          have pK30 := K3_28.out.cell 0 rfl
          have pK31 := K3_28.out.cell 1 rfl
          have pK32 := K3_28.out.cell 2 rfl
          have pK33 := K3_28.out.cell 3 rfl
          have pK34 := K3_28.out.cell 4 rfl
          have pK35 := K3_28.out.cell 5 rfl
          have pK40 := K4_28.out.cell 0 rfl
          have pK41 := K4_28.out.cell 1 rfl
          have pK42 := K4_28.out.cell 2 rfl
          have pK43 := K4_28.out.cell 3 rfl
          have pK44 := K4_28.out.cell 4 rfl
          have pK45 := K4_28.out.cell 5 rfl
          have pK70 := K7_28.out.cell 0 rfl
          have pK71 := K7_28.out.cell 1 rfl
          have pK72 := K7_28.out.cell 2 rfl
          have pK73 := K7_28.out.cell 3 rfl
          have pK74 := K7_28.out.cell 4 rfl
          have pK75 := K7_28.out.cell 5 rfl
          have pK110 := K11_28.out.cell 0 rfl
          have pK111 := K11_28.out.cell 1 rfl
          have pK112 := K11_28.out.cell 2 rfl
          have pK113 := K11_28.out.cell 3 rfl
          have b12 : Below w20.heap.size w20 v1 := b1
          go_wp2_with fail
          refine (kSs _ HSX_28.out).mono ?_
          rintro e v3 ⟨rfl, b3⟩
          have HBx : Hid (Below w20.heap.size w20 v3) := b12.trans (b3.mono b12.size)
          clear b12 b3 b1 pK30 pK31 pK32 pK33 pK34 pK35 pK40 pK41 pK42 pK43 pK44 pK45 pK70 pK71 pK72 pK73 pK74 pK75 pK110 pK111 pK112 pK113
          go_wp2_with fail
          go_meet
          exact ⟨rfl, HBx⟩
      · rcases read with _ | _
        · have ht : t.toList.isEmpty = true := hE.out
          obtain ⟨rfl, rfl, rfl, rfl, rfl, rfl⟩ := H.mk.inj (hisy rfl)
          clear hisy hE hK hU
          obtain rfl := hQ.out rfl
          clear hQ
          have pK30 := K3_20.out.cell 0 rfl
          have pK31 := K3_20.out.cell 1 rfl
          have pK32 := K3_20.out.cell 2 rfl
          have pK33 := K3_20.out.cell 3 rfl
          have pK34 := K3_20.out.cell 4 rfl
          have pK35 := K3_20.out.cell 5 rfl
          have pK40 := K4_20.out.cell 0 rfl
          have pK41 := K4_20.out.cell 1 rfl
          have pK42 := K4_20.out.cell 2 rfl
          have pK43 := K4_20.out.cell 3 rfl
          have pK44 := K4_20.out.cell 4 rfl
          have pK45 := K4_20.out.cell 5 rfl
          go_wp2_with fail
          refine (kO _).mono ?_
          rintro e v1 ⟨rfl, b1⟩
          have K3_29 : Hid (Blk v1 w1.heap.size [.int .i64 rh, .int .i64 rt, .string ra, .string rv, .string rn, .string rd] 25) := K3_20.out.below b1 K3_20.out.lt
          have K4_29 : Hid (Blk v1 w4.heap.size [.int .i64 rh, .int .i64 rt, .string ra, .string rv, .string rn, .string rd] 25) := K4_20.out.below b1 K4_20.out.lt
          have K7_29 : Hid (Blk v1 w7.heap.size [.int .i64 qh, .int .i64 qt, .string qa, .string qv, .string qn, .string qd] 25) := K7_20.out.below b1 K7_20.out.lt
          have HSX_29 : Hid (SO v1 xa xl) := SO.below HSX_20.out b1
          have K11_29 : Hid (Blk v1 w11.heap.size [.int .i64 xh, .int .i64 xr, .string xi, .slice xa xl.length xc] 33) := K11_20.out.below b1 K11_20.out.lt
          clear K3_20 K4_20 K7_20 HSX_20 K11_20
          clear pK30 pK31 pK32 pK33 pK34 pK35 pK40 pK41 pK42 pK43 pK44 pK45
          have pK30 := K3_29.out.cell 0 rfl
          have pK31 := K3_29.out.cell 1 rfl
          have pK32 := K3_29.out.cell 2 rfl
          have pK33 := K3_29.out.cell 3 rfl
          have pK34 := K3_29.out.cell 4 rfl
          have pK35 := K3_29.out.cell 5 rfl
          have pK40 := K4_29.out.cell 0 rfl
          have pK41 := K4_29.out.cell 1 rfl
          have pK42 := K4_29.out.cell 2 rfl
          have pK43 := K4_29.out.cell 3 rfl
          have pK44 := K4_29.out.cell 4 rfl
          have pK45 := K4_29.out.cell 5 rfl
          have pK70 := K7_29.out.cell 0 rfl
          have pK71 := K7_29.out.cell 1 rfl
          have pK72 := K7_29.out.cell 2 rfl
          have pK73 := K7_29.out.cell 3 rfl
          have pK74 := K7_29.out.cell 4 rfl
          have pK75 := K7_29.out.cell 5 rfl
          have pK110 := K11_29.out.cell 0 rfl
          have pK111 := K11_29.out.cell 1 rfl
          have pK112 := K11_29.out.cell 2 rfl
          have pK113 := K11_29.out.cell 3 rfl
          go_wp2_with fail
          refine (kSq _).mono ?_
          rintro e v2 ⟨rfl, b2⟩
          have K3_30 : Hid (Blk v2 w1.heap.size [.int .i64 rh, .int .i64 rt, .string ra, .string rv, .string rn, .string rd] 25) := K3_29.out.below b2 K3_29.out.lt
          have K4_30 : Hid (Blk v2 w4.heap.size [.int .i64 rh, .int .i64 rt, .string ra, .string rv, .string rn, .string rd] 25) := K4_29.out.below b2 K4_29.out.lt
          have K7_30 : Hid (Blk v2 w7.heap.size [.int .i64 qh, .int .i64 qt, .string qa, .string qv, .string qn, .string qd] 25) := K7_29.out.below b2 K7_29.out.lt
          have HSX_30 : Hid (SO v2 xa xl) := SO.below HSX_29.out b2
          have K11_30 : Hid (Blk v2 w11.heap.size [.int .i64 xh, .int .i64 xr, .string xi, .slice xa xl.length xc] 33) := K11_29.out.below b2 K11_29.out.lt
          clear K3_29 K4_29 K7_29 HSX_29 K11_29
          clear pK30 pK31 pK32 pK33 pK34 pK35 pK40 pK41 pK42 pK43 pK44 pK45 pK70 pK71 pK72 pK73 pK74 pK75 pK110 pK111 pK112 pK113
          have pK110 := K11_30.out.cell 0 rfl
          have pK111 := K11_30.out.cell 1 rfl
          have pK112 := K11_30.out.cell 2 rfl
          have pK113 := K11_30.out.cell 3 rfl
          have b12 : Below w20.heap.size w20 v2 := b1.trans (b2.mono b1.size)
          go_wp2_with fail
          refine (kSs _ HSX_30.out).mono ?_
          rintro e v3 ⟨rfl, b3⟩
          have HBx : Hid (Below w20.heap.size w20 v3) := b12.trans (b3.mono b12.size)
          clear b12 b3 b1 pK110 pK111 pK112 pK113
          go_wp2_with fail
          go_meet
          exact ⟨rfl, HBx⟩
        · have ht : t.toList.isEmpty = false := hE.out
          obtain ⟨rfl, rfl, rfl, rfl, rfl, rfl⟩ := H.mk.inj (hisy rfl)
          clear hisy hE hK hU
          obtain rfl := hQ.out rfl
          clear hQ
          have pK30 := K3_20.out.cell 0 rfl
          have pK31 := K3_20.out.cell 1 rfl
          have pK32 := K3_20.out.cell 2 rfl
          have pK33 := K3_20.out.cell 3 rfl
          have pK34 := K3_20.out.cell 4 rfl
          have pK35 := K3_20.out.cell 5 rfl
          have pK40 := K4_20.out.cell 0 rfl
          have pK41 := K4_20.out.cell 1 rfl
          have pK42 := K4_20.out.cell 2 rfl
          have pK43 := K4_20.out.cell 3 rfl
          have pK44 := K4_20.out.cell 4 rfl
          have pK45 := K4_20.out.cell 5 rfl
          go_wp2_with fail
          refine (kO _).mono ?_
          rintro e v1 ⟨rfl, b1⟩
          have K3_31 : Hid (Blk v1 w1.heap.size [.int .i64 rh, .int .i64 rt, .string ra, .string rv, .string rn, .string rd] 25) := K3_20.out.below b1 K3_20.out.lt
          have K4_31 : Hid (Blk v1 w4.heap.size [.int .i64 rh, .int .i64 rt, .string ra, .string rv, .string rn, .string rd] 25) := K4_20.out.below b1 K4_20.out.lt
          have K7_31 : Hid (Blk v1 w7.heap.size [.int .i64 qh, .int .i64 qt, .string qa, .string qv, .string qn, .string qd] 25) := K7_20.out.below b1 K7_20.out.lt
          have HSX_31 : Hid (SO v1 xa xl) := SO.below HSX_20.out b1
          have K11_31 : Hid (Blk v1 w11.heap.size [.int .i64 xh, .int .i64 xr, .string xi, .slice xa xl.length xc] 33) := K11_20.out.below b1 K11_20.out.lt
          clear K3_20 K4_20 K7_20 HSX_20 K11_20
          clear pK30 pK31 pK32 pK33 pK34 pK35 pK40 pK41 pK42 pK43 pK44 pK45
          have pK30 := K3_31.out.cell 0 rfl
          have pK31 := K3_31.out.cell 1 rfl
          have pK32 := K3_31.out.cell 2 rfl
          have pK33 := K3_31.out.cell 3 rfl
          have pK34 := K3_31.out.cell 4 rfl
          have pK35 := K3_31.out.cell 5 rfl
          have pK40 := K4_31.out.cell 0 rfl
          have pK41 := K4_31.out.cell 1 rfl
          have pK42 := K4_31.out.cell 2 rfl
          have pK43 := K4_31.out.cell 3 rfl
          have pK44 := K4_31.out.cell 4 rfl
          have pK45 := K4_31.out.cell 5 rfl
          have pK70 := K7_31.out.cell 0 rfl
          have pK71 := K7_31.out.cell 1 rfl
          have pK72 := K7_31.out.cell 2 rfl
          have pK73 := K7_31.out.cell 3 rfl
          have pK74 := K7_31.out.cell 4 rfl
          have pK75 := K7_31.out.cell 5 rfl
          have pK110 := K11_31.out.cell 0 rfl
          have pK111 := K11_31.out.cell 1 rfl
          have pK112 := K11_31.out.cell 2 rfl
          have pK113 := K11_31.out.cell 3 rfl
          go_wp2_with fail
          refine (kSq _).mono ?_
          rintro e v2 ⟨rfl, b2⟩
          have K3_32 : Hid (Blk v2 w1.heap.size [.int .i64 rh, .int .i64 rt, .string ra, .string rv, .string rn, .string rd] 25) := K3_31.out.below b2 K3_31.out.lt
          have K4_32 : Hid (Blk v2 w4.heap.size [.int .i64 rh, .int .i64 rt, .string ra, .string rv, .string rn, .string rd] 25) := K4_31.out.below b2 K4_31.out.lt
          have K7_32 : Hid (Blk v2 w7.heap.size [.int .i64 qh, .int .i64 qt, .string qa, .string qv, .string qn, .string qd] 25) := K7_31.out.below b2 K7_31.out.lt
          have HSX_32 : Hid (SO v2 xa xl) := SO.below HSX_31.out b2
          have K11_32 : Hid (Blk v2 w11.heap.size [.int .i64 xh, .int .i64 xr, .string xi, .slice xa xl.length xc] 33) := K11_31.out.below b2 K11_31.out.lt
          clear K3_31 K4_31 K7_31 HSX_31 K11_31
          clear pK30 pK31 pK32 pK33 pK34 pK35 pK40 pK41 pK42 pK43 pK44 pK45 pK70 pK71 pK72 pK73 pK74 pK75 pK110 pK111 pK112 pK113
          have pK110 := K11_32.out.cell 0 rfl
          have pK111 := K11_32.out.cell 1 rfl
          have pK112 := K11_32.out.cell 2 rfl
          have pK113 := K11_32.out.cell 3 rfl
          have b12 : Below w20.heap.size w20 v2 := b1.trans (b2.mono b1.size)
          go_wp2_with fail
          refine (kSs _ HSX_32.out).mono ?_
          rintro e v3 ⟨rfl, b3⟩
          have HBx : Hid (Below w20.heap.size w20 v3) := b12.trans (b3.mono b12.size)
          clear b12 b3 b1 pK110 pK111 pK112 pK113
          go_wp2_with fail
          go_meet
          exact ⟨rfl, HBx⟩
  case rest =>
    rename World => w21
    obtain ⟨rfl, HBy⟩ := hcut
    have HL_33 : Hid (CodeAt w21 w21.heap.size a L) := code_below HL_20.out HBy.out
    have HT_33 : Hid (Tab w21) := HT_20.out.below HBy.out HT_20.out.pos
    have HB_33 : Hid (Below w0.heap.size w0 w21) := HB_20.out.trans (HBy.out.mono HB_20.out.size)
    have K3_33 : Hid (Blk w21 w1.heap.size [.int .i64 yh, .int .i64 yt, .string ya, .string yv, .string yn, .string yd] 25) := K3_20.out.below HBy.out K3_20.out.lt
    have K4_33 : Hid (Blk w21 w4.heap.size [.int .i64 rh, .int .i64 rt, .string ra, .string rv, .string rn, .string rd] 25) := K4_20.out.below HBy.out K4_20.out.lt
    have K7_33 : Hid (Blk w21 w7.heap.size [.int .i64 qh, .int .i64 qt, .string qa, .string qv, .string qn, .string qd] 25) := K7_20.out.below HBy.out K7_20.out.lt
    have HSX_33 : Hid (SO w21 xa xl) := SO.below HSX_20.out HBy.out
    have K11_33 : Hid (Blk w21 w11.heap.size [.int .i64 xh, .int .i64 xr, .string xi, .slice xa xl.length xc] 33) := K11_20.out.below HBy.out K11_20.out.lt
    have HSZ_33 : Hid (SO w21 za zl) := SO.below HSZ_20.out HBy.out
    have K13_33 : Hid (Blk w21 w14.heap.size [.int .i64 zh, .int .i64 zr, .string zi, .slice za zl.length zc] 33) := K13_20.out.below HBy.out K13_20.out.lt
    have HSU_33 : Hid (SO w21 ua ul) := SO.below HSU_20.out HBy.out
    have K16_33 : Hid (Blk w21 w17.heap.size [.int .i64 uh, .int .i64 ur, .string ui, .slice ua ul.length uc] 33) := K16_20.out.below HBy.out K16_20.out.lt
    clear HL_20 HT_20 HB_20 K3_20 K4_20 K7_20 HSX_20 K11_20 HSZ_20 K13_20 HSU_20 K16_20
    clear HBy kO kSs kSq hE hQ hR
    have hdr : Below w21.heap.size w21 w21.drew := (Below.refl _ _).drew
    have HT_34 : Hid (Tab w21.drew) := HT_33.out.below hdr HT_33.out.pos
    have HB_34 : Hid (Below w0.heap.size w0 w21.drew) := HB_33.out.trans (hdr.mono HB_33.out.size)
    have K3_34 : Hid (Blk w21.drew w1.heap.size [.int .i64 yh, .int .i64 yt, .string ya, .string yv, .string yn, .string yd] 25) := K3_33.out.below hdr K3_33.out.lt
    have HSZ_34 : Hid (SO w21.drew za zl) := SO.below HSZ_33.out hdr
    have K13_34 : Hid (Blk w21.drew w14.heap.size [.int .i64 zh, .int .i64 zr, .string zi, .slice za zl.length zc] 33) := K13_33.out.below hdr K13_33.out.lt
    have HSU_34 : Hid (SO w21.drew ua ul) := SO.below HSU_33.out hdr
    have K16_34 : Hid (Blk w21.drew w17.heap.size [.int .i64 uh, .int .i64 ur, .string ui, .slice ua ul.length uc] 33) := K16_33.out.below hdr K16_33.out.lt
    clear hdr HT_33 HB_33 K3_33 HSZ_33 K13_33 HSU_33 K16_33
    rcases read with _ | _
    · rcases whole with _ | _
      · have hfin := trivial
        clear hK hU
        go_wp2_with fail
        refine wp_region_held_drew (S := (fun W : World => (W.cell? ⟨w1.heap.size, 0, none⟩ = some (.int .i64 yh) ∧ W.cell? ⟨w1.heap.size, 1, none⟩ = some (.int .i64 yt) ∧ W.cell? ⟨w1.heap.size, 2, none⟩ = some (.string ya) ∧ W.cell? ⟨w1.heap.size, 3, none⟩ = some (.string yv) ∧ W.cell? ⟨w1.heap.size, 4, none⟩ = some (.string yn) ∧ W.cell? ⟨w1.heap.size, 5, none⟩ = some (.string yd)) ∧ (W.cell? ⟨w14.heap.size, 0, none⟩ = some (.int .i64 zh) ∧ W.cell? ⟨w14.heap.size, 1, none⟩ = some (.int .i64 zr) ∧ W.cell? ⟨w14.heap.size, 2, none⟩ = some (.string zi) ∧ W.cell? ⟨w14.heap.size, 3, none⟩ = some (.slice za zl.length zc)) ∧ (W.cell? ⟨w17.heap.size, 0, none⟩ = some (.int .i64 uh) ∧ W.cell? ⟨w17.heap.size, 1, none⟩ = some (.int .i64 ur) ∧ W.cell? ⟨w17.heap.size, 2, none⟩ = some (.string ui) ∧ W.cell? ⟨w17.heap.size, 3, none⟩ = some (.slice ua ul.length uc)))) (by kernel_rfl) ?_ (fun hHeld => ?_)
        · exact ⟨⟨K3_34.out.cell 0 rfl, K3_34.out.cell 1 rfl, K3_34.out.cell 2 rfl, K3_34.out.cell 3 rfl, K3_34.out.cell 4 rfl, K3_34.out.cell 5 rfl⟩, ⟨K13_34.out.cell 0 rfl, K13_34.out.cell 1 rfl, K13_34.out.cell 2 rfl, K13_34.out.cell 3 rfl⟩, ⟨K16_34.out.cell 0 rfl, K16_34.out.cell 1 rfl, K16_34.out.cell 2 rfl, K16_34.out.cell 3 rfl⟩⟩
        generalize w21.drew = wd at *
        refine wpAnyH_take (i := 0) (oi := { dst := Option.some 106, op := Go.Op.move (Go.Operand.tmp 14), type := 4, pos := "laws.go:441", after := #[], guard := Option.none }) (v := ?_) rfl (by kernel_rfl) (by kernel_rfl) (by kernel_rfl) (fun _ _ _ h => h) (Or.inl ⟨by rfl, ?_⟩) hHeld ?_
        rotate_left
        · intro w hSw
          try dsimp only at hSw
          go_simp
          try (with_reducible rfl)
        simp only [Act.put, List.setIfInBounds_toArray, List.set_cons_zero, List.set_cons_succ]
        refine wpAnyH_take (i := 1) (oi := { dst := Option.some 107, op := Go.Op.unOp Go.UnOp.not 4 (Go.Operand.tmp 106), type := 4, pos := "laws.go:441", after := #[{ on := 0, ground := Go.Ground.data }], guard := Option.none }) (v := ?_) rfl (by kernel_rfl) (by kernel_rfl) (by kernel_rfl) (fun _ _ _ h => h) (Or.inl ⟨by rfl, ?_⟩) hHeld ?_
        rotate_left
        · intro w hSw
          try dsimp only at hSw
          go_simp
          try (with_reducible rfl)
        simp only [Act.put, List.setIfInBounds_toArray, List.set_cons_zero, List.set_cons_succ]
        refine wpAnyH_take (i := 2) (oi := { dst := Option.some 108, op := Go.Op.move (Go.Operand.tmp 107), type := 4, pos := "laws.go:441", after := #[{ on := 1, ground := Go.Ground.data }], guard := Option.none }) (v := ?_) rfl (by kernel_rfl) (by kernel_rfl) (by kernel_rfl) (fun _ _ _ h => h) (Or.inl ⟨by rfl, ?_⟩) hHeld ?_
        rotate_left
        · intro w hSw
          try dsimp only at hSw
          go_simp
          try (with_reducible rfl)
        simp only [Act.put, List.setIfInBounds_toArray, List.set_cons_zero, List.set_cons_succ]
        refine wpAnyH_take (i := 3) (oi := { dst := Option.some 109, op := Go.Op.load 33 (Go.Operand.tmp 13), type := 33, pos := "laws.go:441", after := #[{ on := 2, ground := Go.Ground.guard }], guard := Option.some (2, Bool.false) }) (v := undef) rfl (by kernel_rfl) (by kernel_rfl) (by kernel_rfl) (fun _ _ _ h => h) (Or.inr ⟨by rfl, rfl⟩) hHeld ?_
        simp only [Act.put, List.setIfInBounds_toArray, List.set_cons_zero, List.set_cons_succ]
        refine wpAnyH_take (i := 4) (oi := { dst := Option.some 110, op := Go.Op.call { callee := Go.Callee.value (Go.Operand.func 12), args := #[Go.Operand.tmp 109], argTypes := #[33] }, type := 9, pos := "laws.go:441", after := #[{ on := 3, ground := Go.Ground.data }, { on := 2, ground := Go.Ground.chain }, { on := 2, ground := Go.Ground.guard }], guard := Option.some (2, Bool.false) }) (v := undef) rfl (by kernel_rfl) (by kernel_rfl) (by kernel_rfl) (fun _ _ _ h => h) (Or.inr ⟨by rfl, rfl⟩) hHeld ?_
        simp only [Act.put, List.setIfInBounds_toArray, List.set_cons_zero, List.set_cons_succ]
        refine wpAnyH_take (i := 5) (oi := { dst := Option.some 111, op := Go.Op.move (Go.Operand.tmp 12), type := 9, pos := "laws.go:441", after := #[{ on := 2, ground := Go.Ground.guard }], guard := Option.some (2, Bool.false) }) (v := undef) rfl (by kernel_rfl) (by kernel_rfl) (by kernel_rfl) (fun _ _ _ h => h) (Or.inr ⟨by rfl, rfl⟩) hHeld ?_
        simp only [Act.put, List.setIfInBounds_toArray, List.set_cons_zero, List.set_cons_succ]
        refine wpAnyH_take (i := 6) (oi := { dst := Option.some 112, op := Go.Op.binOp Go.BinOp.eql 9 (Go.Operand.tmp 110) (Go.Operand.tmp 111) 9, type := 4, pos := "laws.go:441", after := #[{ on := 4, ground := Go.Ground.data }, { on := 5, ground := Go.Ground.data }, { on := 2, ground := Go.Ground.guard }], guard := Option.some (2, Bool.false) }) (v := undef) rfl (by kernel_rfl) (by kernel_rfl) (by kernel_rfl) (fun _ _ _ h => h) (Or.inr ⟨by rfl, rfl⟩) hHeld ?_
        simp only [Act.put, List.setIfInBounds_toArray, List.set_cons_zero, List.set_cons_succ]
        refine wpAnyH_take (i := 7) (oi := { dst := Option.some 113, op := Go.Op.pick (Go.Operand.tmp 108) (Go.Operand.const (Go.Value.bool Bool.true)) (Go.Operand.tmp 112), type := 4, pos := "laws.go:441", after := #[{ on := 2, ground := Go.Ground.data }, { on := 6, ground := Go.Ground.data }], guard := Option.none }) (v := ?_) rfl (by kernel_rfl) (by kernel_rfl) (by kernel_rfl) (fun _ _ _ h => h) (Or.inl ⟨by rfl, ?_⟩) hHeld ?_
        rotate_left
        · intro w hSw
          try dsimp only at hSw
          go_simp
          try (with_reducible rfl)
        simp only [Act.put, List.setIfInBounds_toArray, List.set_cons_zero, List.set_cons_succ]
        refine wpAnyH_take (i := 8) (oi := { dst := Option.some 114, op := Go.Op.move (Go.Operand.tmp 113), type := 4, pos := "laws.go:441", after := #[{ on := 7, ground := Go.Ground.data }, { on := 4, ground := Go.Ground.chain }], guard := Option.none }) (v := ?_) rfl (by kernel_rfl) (by kernel_rfl) (by kernel_rfl) (fun _ _ _ h => h) (Or.inl ⟨by rfl, ?_⟩) hHeld ?_
        rotate_left
        · intro w hSw
          try dsimp only at hSw
          go_simp
          try (with_reducible rfl)
        simp only [Act.put, List.setIfInBounds_toArray, List.set_cons_zero, List.set_cons_succ]
        refine wpAnyH_take (i := 9) (oi := { dst := Option.some 115, op := Go.Op.move (Go.Operand.tmp 17), type := 4, pos := "laws.go:441", after := #[{ on := 8, ground := Go.Ground.guard }], guard := Option.some (8, Bool.true) }) (v := ?_) rfl (by kernel_rfl) (by kernel_rfl) (by kernel_rfl) (fun _ _ _ h => h) (Or.inl ⟨by rfl, ?_⟩) hHeld ?_
        rotate_left
        · intro w hSw
          try dsimp only at hSw
          go_simp
          try (with_reducible rfl)
        simp only [Act.put, List.setIfInBounds_toArray, List.set_cons_zero, List.set_cons_succ]
        refine wpAnyH_take (i := 10) (oi := { dst := Option.some 116, op := Go.Op.unOp Go.UnOp.not 4 (Go.Operand.tmp 115), type := 4, pos := "laws.go:441", after := #[{ on := 9, ground := Go.Ground.data }, { on := 8, ground := Go.Ground.guard }], guard := Option.some (8, Bool.true) }) (v := ?_) rfl (by kernel_rfl) (by kernel_rfl) (by kernel_rfl) (fun _ _ _ h => h) (Or.inl ⟨by rfl, ?_⟩) hHeld ?_
        rotate_left
        · intro w hSw
          try dsimp only at hSw
          go_simp
          try (with_reducible rfl)
        simp only [Act.put, List.setIfInBounds_toArray, List.set_cons_zero, List.set_cons_succ]
        refine wpAnyH_take (i := 11) (oi := { dst := Option.some 117, op := Go.Op.move (Go.Operand.tmp 116), type := 4, pos := "laws.go:441", after := #[{ on := 10, ground := Go.Ground.data }, { on := 8, ground := Go.Ground.chain }, { on := 8, ground := Go.Ground.guard }], guard := Option.some (8, Bool.true) }) (v := ?_) rfl (by kernel_rfl) (by kernel_rfl) (by kernel_rfl) (fun _ _ _ h => h) (Or.inl ⟨by rfl, ?_⟩) hHeld ?_
        rotate_left
        · intro w hSw
          try dsimp only at hSw
          go_simp
          try (with_reducible rfl)
        simp only [Act.put, List.setIfInBounds_toArray, List.set_cons_zero, List.set_cons_succ]
        refine wpAnyH_take (i := 12) (oi := { dst := Option.some 118, op := Go.Op.load 33 (Go.Operand.tmp 16), type := 33, pos := "laws.go:441", after := #[{ on := 11, ground := Go.Ground.guard }], guard := Option.some (11, Bool.false) }) (v := undef) rfl (by kernel_rfl) (by kernel_rfl) (by kernel_rfl) (fun _ _ _ h => h) (Or.inr ⟨by rfl, rfl⟩) hHeld ?_
        simp only [Act.put, List.setIfInBounds_toArray, List.set_cons_zero, List.set_cons_succ]
        refine wpAnyH_take (i := 13) (oi := { dst := Option.some 119, op := Go.Op.call { callee := Go.Callee.value (Go.Operand.func 12), args := #[Go.Operand.tmp 118], argTypes := #[33] }, type := 9, pos := "laws.go:441", after := #[{ on := 12, ground := Go.Ground.data }, { on := 11, ground := Go.Ground.chain }, { on := 11, ground := Go.Ground.guard }], guard := Option.some (11, Bool.false) }) (v := undef) rfl (by kernel_rfl) (by kernel_rfl) (by kernel_rfl) (fun _ _ _ h => h) (Or.inr ⟨by rfl, rfl⟩) hHeld ?_
        simp only [Act.put, List.setIfInBounds_toArray, List.set_cons_zero, List.set_cons_succ]
        refine wpAnyH_take (i := 14) (oi := { dst := Option.some 120, op := Go.Op.move (Go.Operand.tmp 15), type := 9, pos := "laws.go:441", after := #[{ on := 11, ground := Go.Ground.guard }], guard := Option.some (11, Bool.false) }) (v := undef) rfl (by kernel_rfl) (by kernel_rfl) (by kernel_rfl) (fun _ _ _ h => h) (Or.inr ⟨by rfl, rfl⟩) hHeld ?_
        simp only [Act.put, List.setIfInBounds_toArray, List.set_cons_zero, List.set_cons_succ]
        refine wpAnyH_take (i := 15) (oi := { dst := Option.some 121, op := Go.Op.binOp Go.BinOp.eql 9 (Go.Operand.tmp 119) (Go.Operand.tmp 120) 9, type := 4, pos := "laws.go:441", after := #[{ on := 13, ground := Go.Ground.data }, { on := 14, ground := Go.Ground.data }, { on := 11, ground := Go.Ground.guard }], guard := Option.some (11, Bool.false) }) (v := undef) rfl (by kernel_rfl) (by kernel_rfl) (by kernel_rfl) (fun _ _ _ h => h) (Or.inr ⟨by rfl, rfl⟩) hHeld ?_
        simp only [Act.put, List.setIfInBounds_toArray, List.set_cons_zero, List.set_cons_succ]
        refine wpAnyH_take (i := 16) (oi := { dst := Option.some 122, op := Go.Op.pick (Go.Operand.tmp 117) (Go.Operand.const (Go.Value.bool Bool.true)) (Go.Operand.tmp 121), type := 4, pos := "laws.go:441", after := #[{ on := 11, ground := Go.Ground.data }, { on := 15, ground := Go.Ground.data }, { on := 8, ground := Go.Ground.guard }], guard := Option.some (8, Bool.true) }) (v := ?_) rfl (by kernel_rfl) (by kernel_rfl) (by kernel_rfl) (fun _ _ _ h => h) (Or.inl ⟨by rfl, ?_⟩) hHeld ?_
        rotate_left
        · intro w hSw
          try dsimp only at hSw
          go_simp
          try (with_reducible rfl)
        simp only [Act.put, List.setIfInBounds_toArray, List.set_cons_zero, List.set_cons_succ]
        refine wpAnyH_take (i := 17) (oi := { dst := Option.some 123, op := Go.Op.pick (Go.Operand.tmp 114) (Go.Operand.tmp 122) (Go.Operand.const (Go.Value.bool Bool.false)), type := 4, pos := "laws.go:441", after := #[{ on := 8, ground := Go.Ground.data }, { on := 16, ground := Go.Ground.data }], guard := Option.none }) (v := ?_) rfl (by kernel_rfl) (by kernel_rfl) (by kernel_rfl) (fun _ _ _ h => h) (Or.inl ⟨by rfl, ?_⟩) hHeld ?_
        rotate_left
        · intro w hSw
          try dsimp only at hSw
          go_simp
          try (with_reducible rfl)
        simp only [Act.put, List.setIfInBounds_toArray, List.set_cons_zero, List.set_cons_succ]
        refine wpAnyH_take (i := 18) (oi := { dst := Option.some 124, op := Go.Op.move (Go.Operand.tmp 123), type := 4, pos := "laws.go:441", after := #[{ on := 17, ground := Go.Ground.data }, { on := 13, ground := Go.Ground.chain }], guard := Option.none }) (v := ?_) rfl (by kernel_rfl) (by kernel_rfl) (by kernel_rfl) (fun _ _ _ h => h) (Or.inl ⟨by rfl, ?_⟩) hHeld ?_
        rotate_left
        · intro w hSw
          try dsimp only at hSw
          go_simp
          try (with_reducible rfl)
        simp only [Act.put, List.setIfInBounds_toArray, List.set_cons_zero, List.set_cons_succ]
        refine wpAnyH_take (i := 19) (oi := { dst := Option.some 125, op := Go.Op.load 25 (Go.Operand.tmp 3), type := 25, pos := "laws.go:441", after := #[{ on := 18, ground := Go.Ground.guard }], guard := Option.some (18, Bool.true) }) (v := ?_) rfl (by kernel_rfl) (by kernel_rfl) (by kernel_rfl) (fun _ _ _ h => h) (Or.inl ⟨by rfl, ?_⟩) hHeld ?_
        rotate_left
        · intro w hSw
          try dsimp only at hSw
          go_simp
          try (with_reducible rfl)
        simp only [Act.put, List.setIfInBounds_toArray, List.set_cons_zero, List.set_cons_succ]
        refine wpAnyH_take (i := 22) (oi := { dst := Option.some 128, op := Go.Op.load 25 (Go.Operand.tmp 3), type := 25, pos := "laws.go:441", after := #[{ on := 18, ground := Go.Ground.guard }], guard := Option.some (18, Bool.true) }) (v := ?_) rfl (by kernel_rfl) (by kernel_rfl) (by kernel_rfl) (fun _ _ _ h => h) (Or.inl ⟨by rfl, ?_⟩) hHeld ?_
        rotate_left
        · intro w hSw
          try dsimp only at hSw
          go_simp
          try (with_reducible rfl)
        simp only [Act.put, List.setIfInBounds_toArray, List.set_cons_zero, List.set_cons_succ]
        refine wpAnyH_ready (rs := [20]) (by kernel_rfl) (by decide) ?_
        refine AllReadyH.cons (o := { dst := Option.some 126, op := Go.Op.call { callee := Go.Callee.value (Go.Operand.func 18), args := #[Go.Operand.tmp 125], argTypes := #[25] }, type := 9, pos := "laws.go:441", after := #[{ on := 19, ground := Go.Ground.data }, { on := 18, ground := Go.Ground.chain }, { on := 18, ground := Go.Ground.guard }], guard := Option.some (18, Bool.true) }) rfl (fun K hK => ?_) AllReadyH.nil
        go_simp
        go_at_call 18
        refine (kI _ HT_34.out).mono ?_
        rintro e v1 ⟨rfl, b1⟩
        have HT_35 : Hid (Tab v1) := HT_34.out.below b1 HT_34.out.pos
        have HB_35 : Hid (Below w0.heap.size w0 v1) := HB_34.out.trans (b1.mono HB_34.out.size)
        have K3_35 : Hid (Blk v1 w1.heap.size [.int .i64 yh, .int .i64 yt, .string ya, .string yv, .string yn, .string yd] 25) := K3_34.out.below b1 K3_34.out.lt
        have HSZ_35 : Hid (SO v1 za zl) := SO.below HSZ_34.out b1
        have K13_35 : Hid (Blk v1 w14.heap.size [.int .i64 zh, .int .i64 zr, .string zi, .slice za zl.length zc] 33) := K13_34.out.below b1 K13_34.out.lt
        have HSU_35 : Hid (SO v1 ua ul) := SO.below HSU_34.out b1
        have K16_35 : Hid (Blk v1 w17.heap.size [.int .i64 uh, .int .i64 ur, .string ui, .slice ua ul.length uc] 33) := K16_34.out.below b1 K16_34.out.lt
        clear b1
        refine hK.out _ _ (⟨⟨K3_35.out.cell 0 rfl, K3_35.out.cell 1 rfl, K3_35.out.cell 2 rfl, K3_35.out.cell 3 rfl, K3_35.out.cell 4 rfl, K3_35.out.cell 5 rfl⟩, ⟨K13_35.out.cell 0 rfl, K13_35.out.cell 1 rfl, K13_35.out.cell 2 rfl, K13_35.out.cell 3 rfl⟩, ⟨K16_35.out.cell 0 rfl, K16_35.out.cell 1 rfl, K16_35.out.cell 2 rfl, K16_35.out.cell 3 rfl⟩⟩) (fun hHeld => ?_)
        clear hK K
        try simp only [Act.put, List.setIfInBounds_toArray, List.set_cons_zero, List.set_cons_succ]
        refine wpAnyH_take (i := 21) (oi := { dst := Option.some 127, op := Go.Op.call { callee := Go.Callee.builtin Go.Builtin.len, args := #[Go.Operand.tmp 126], argTypes := #[9] }, type := 3, pos := "laws.go:441", after := #[{ on := 20, ground := Go.Ground.data }, { on := 18, ground := Go.Ground.guard }], guard := Option.some (18, Bool.true) }) (v := ?_) rfl (by kernel_rfl) (by kernel_rfl) (by kernel_rfl) (fun _ _ _ h => h) (Or.inl ⟨by rfl, ?_⟩) hHeld ?_
        rotate_left
        · intro w hSw
          try dsimp only at hSw
          go_simp
          try (with_reducible rfl)
        simp only [Act.put, List.setIfInBounds_toArray, List.set_cons_zero, List.set_cons_succ]
        refine wpAnyH_ready (rs := [23]) (by kernel_rfl) (by decide) ?_
        refine AllReadyH.cons (o := { dst := Option.some 129, op := Go.Op.call { callee := Go.Callee.value (Go.Operand.func 19), args := #[Go.Operand.tmp 128], argTypes := #[25] }, type := 9, pos := "laws.go:441", after := #[{ on := 22, ground := Go.Ground.data }, { on := 20, ground := Go.Ground.chain }, { on := 18, ground := Go.Ground.guard }], guard := Option.some (18, Bool.true) }) rfl (fun K hK => ?_) AllReadyH.nil
        go_simp
        go_at_call 19
        refine (kJ _).mono ?_
        rintro e v2 ⟨rfl, b2⟩
        have HT_36 : Hid (Tab v2) := HT_35.out.below b2 HT_35.out.pos
        have HB_36 : Hid (Below w0.heap.size w0 v2) := HB_35.out.trans (b2.mono HB_35.out.size)
        have K3_36 : Hid (Blk v2 w1.heap.size [.int .i64 yh, .int .i64 yt, .string ya, .string yv, .string yn, .string yd] 25) := K3_35.out.below b2 K3_35.out.lt
        have HSZ_36 : Hid (SO v2 za zl) := SO.below HSZ_35.out b2
        have K13_36 : Hid (Blk v2 w14.heap.size [.int .i64 zh, .int .i64 zr, .string zi, .slice za zl.length zc] 33) := K13_35.out.below b2 K13_35.out.lt
        have HSU_36 : Hid (SO v2 ua ul) := SO.below HSU_35.out b2
        have K16_36 : Hid (Blk v2 w17.heap.size [.int .i64 uh, .int .i64 ur, .string ui, .slice ua ul.length uc] 33) := K16_35.out.below b2 K16_35.out.lt
        clear b2
        refine hK.out _ _ (⟨⟨K3_36.out.cell 0 rfl, K3_36.out.cell 1 rfl, K3_36.out.cell 2 rfl, K3_36.out.cell 3 rfl, K3_36.out.cell 4 rfl, K3_36.out.cell 5 rfl⟩, ⟨K13_36.out.cell 0 rfl, K13_36.out.cell 1 rfl, K13_36.out.cell 2 rfl, K13_36.out.cell 3 rfl⟩, ⟨K16_36.out.cell 0 rfl, K16_36.out.cell 1 rfl, K16_36.out.cell 2 rfl, K16_36.out.cell 3 rfl⟩⟩) (fun hHeld => ?_)
        clear hK K
        try simp only [Act.put, List.setIfInBounds_toArray, List.set_cons_zero, List.set_cons_succ]
        refine wpAnyH_take (i := 24) (oi := { dst := Option.some 130, op := Go.Op.call { callee := Go.Callee.builtin Go.Builtin.len, args := #[Go.Operand.tmp 129], argTypes := #[9] }, type := 3, pos := "laws.go:441", after := #[{ on := 23, ground := Go.Ground.data }, { on := 18, ground := Go.Ground.guard }], guard := Option.some (18, Bool.true) }) (v := ?_) rfl (by kernel_rfl) (by kernel_rfl) (by kernel_rfl) (fun _ _ _ h => h) (Or.inl ⟨by rfl, ?_⟩) hHeld ?_
        rotate_left
        · intro w hSw
          try dsimp only at hSw
          go_simp
          try (with_reducible rfl)
        simp only [Act.put, List.setIfInBounds_toArray, List.set_cons_zero, List.set_cons_succ]
        refine wpAnyH_take (i := 25) (oi := { dst := Option.some 131, op := Go.Op.binOp Go.BinOp.eql 3 (Go.Operand.tmp 127) (Go.Operand.tmp 130) 3, type := 4, pos := "laws.go:441", after := #[{ on := 21, ground := Go.Ground.data }, { on := 24, ground := Go.Ground.data }, { on := 18, ground := Go.Ground.guard }], guard := Option.some (18, Bool.true) }) (v := ?_) rfl (by kernel_rfl) (by kernel_rfl) (by kernel_rfl) (fun _ _ _ h => h) (Or.inl ⟨by rfl, ?_⟩) hHeld ?_
        rotate_left
        · intro w hSw
          try dsimp only at hSw
          go_simp
          try (with_reducible rfl)
        simp only [Act.put, List.setIfInBounds_toArray, List.set_cons_zero, List.set_cons_succ]
        refine wpAnyH_take (i := 26) (oi := { dst := Option.some 132, op := Go.Op.pick (Go.Operand.tmp 124) (Go.Operand.tmp 131) (Go.Operand.const (Go.Value.bool Bool.false)), type := 4, pos := "laws.go:441", after := #[{ on := 18, ground := Go.Ground.data }, { on := 25, ground := Go.Ground.data }], guard := Option.none }) (v := ?_) rfl (by kernel_rfl) (by kernel_rfl) (by kernel_rfl) (fun _ _ _ h => h) (Or.inl ⟨by rfl, ?_⟩) hHeld ?_
        rotate_left
        · intro w hSw
          try dsimp only at hSw
          go_simp
          try (with_reducible rfl)
        simp only [Act.put, List.setIfInBounds_toArray, List.set_cons_zero, List.set_cons_succ]
        refine wpAnyH_take (i := 27) (oi := { dst := Option.some 2, op := Go.Op.assign (Go.Operand.tmp 132), type := 4, pos := "laws.go:441", after := #[{ on := 26, ground := Go.Ground.data }, { on := 23, ground := Go.Ground.chain }, { on := 0, ground := Go.Ground.phase }, { on := 1, ground := Go.Ground.phase }, { on := 2, ground := Go.Ground.phase }, { on := 3, ground := Go.Ground.phase }, { on := 4, ground := Go.Ground.phase }, { on := 5, ground := Go.Ground.phase }, { on := 6, ground := Go.Ground.phase }, { on := 7, ground := Go.Ground.phase }, { on := 8, ground := Go.Ground.phase }, { on := 9, ground := Go.Ground.phase }, { on := 10, ground := Go.Ground.phase }, { on := 11, ground := Go.Ground.phase }, { on := 12, ground := Go.Ground.phase }, { on := 13, ground := Go.Ground.phase }, { on := 14, ground := Go.Ground.phase }, { on := 15, ground := Go.Ground.phase }, { on := 16, ground := Go.Ground.phase }, { on := 17, ground := Go.Ground.phase }, { on := 18, ground := Go.Ground.phase }, { on := 19, ground := Go.Ground.phase }, { on := 20, ground := Go.Ground.phase }, { on := 21, ground := Go.Ground.phase }, { on := 22, ground := Go.Ground.phase }, { on := 23, ground := Go.Ground.phase }, { on := 24, ground := Go.Ground.phase }, { on := 25, ground := Go.Ground.phase }, { on := 26, ground := Go.Ground.phase }], guard := Option.none }) (v := ?_) rfl (by kernel_rfl) (by kernel_rfl) (by kernel_rfl) (fun _ _ _ h => h) (Or.inl ⟨by rfl, ?_⟩) hHeld ?_
        rotate_left
        · intro w hSw
          try dsimp only at hSw
          go_simp
          try (with_reducible rfl)
        simp only [Act.put, List.setIfInBounds_toArray, List.set_cons_zero, List.set_cons_succ]
        refine wpAnyH_done (by kernel_rfl) ?_ _
        go_wp2
        go_ret
        exact ⟨rfl, HB_36.out⟩
      · have hfin := trivial
        have hu := hU.out rfl
        have kU := fun W (h : SO W ua ul) => impl_showC ⟨uh, ur, ui, ul⟩ ua uc W h hu.2
        rw [hu.1] at kU
        unfold cV at kU
        simp only at kU
        clear hK hU
        go_wp2_with fail
        refine wp_region_held_drew (S := (fun W : World => (W.cell? ⟨w1.heap.size, 0, none⟩ = some (.int .i64 yh) ∧ W.cell? ⟨w1.heap.size, 1, none⟩ = some (.int .i64 yt) ∧ W.cell? ⟨w1.heap.size, 2, none⟩ = some (.string ya) ∧ W.cell? ⟨w1.heap.size, 3, none⟩ = some (.string yv) ∧ W.cell? ⟨w1.heap.size, 4, none⟩ = some (.string yn) ∧ W.cell? ⟨w1.heap.size, 5, none⟩ = some (.string yd)) ∧ (W.cell? ⟨w14.heap.size, 0, none⟩ = some (.int .i64 zh) ∧ W.cell? ⟨w14.heap.size, 1, none⟩ = some (.int .i64 zr) ∧ W.cell? ⟨w14.heap.size, 2, none⟩ = some (.string zi) ∧ W.cell? ⟨w14.heap.size, 3, none⟩ = some (.slice za zl.length zc)) ∧ (W.cell? ⟨w17.heap.size, 0, none⟩ = some (.int .i64 uh) ∧ W.cell? ⟨w17.heap.size, 1, none⟩ = some (.int .i64 ur) ∧ W.cell? ⟨w17.heap.size, 2, none⟩ = some (.string ui) ∧ W.cell? ⟨w17.heap.size, 3, none⟩ = some (.slice ua ul.length uc)))) (by kernel_rfl) ?_ (fun hHeld => ?_)
        · exact ⟨⟨K3_34.out.cell 0 rfl, K3_34.out.cell 1 rfl, K3_34.out.cell 2 rfl, K3_34.out.cell 3 rfl, K3_34.out.cell 4 rfl, K3_34.out.cell 5 rfl⟩, ⟨K13_34.out.cell 0 rfl, K13_34.out.cell 1 rfl, K13_34.out.cell 2 rfl, K13_34.out.cell 3 rfl⟩, ⟨K16_34.out.cell 0 rfl, K16_34.out.cell 1 rfl, K16_34.out.cell 2 rfl, K16_34.out.cell 3 rfl⟩⟩
        generalize w21.drew = wd at *
        refine wpAnyH_take (i := 0) (oi := { dst := Option.some 106, op := Go.Op.move (Go.Operand.tmp 14), type := 4, pos := "laws.go:441", after := #[], guard := Option.none }) (v := ?_) rfl (by kernel_rfl) (by kernel_rfl) (by kernel_rfl) (fun _ _ _ h => h) (Or.inl ⟨by rfl, ?_⟩) hHeld ?_
        rotate_left
        · intro w hSw
          try dsimp only at hSw
          go_simp
          try (with_reducible rfl)
        simp only [Act.put, List.setIfInBounds_toArray, List.set_cons_zero, List.set_cons_succ]
        refine wpAnyH_take (i := 1) (oi := { dst := Option.some 107, op := Go.Op.unOp Go.UnOp.not 4 (Go.Operand.tmp 106), type := 4, pos := "laws.go:441", after := #[{ on := 0, ground := Go.Ground.data }], guard := Option.none }) (v := ?_) rfl (by kernel_rfl) (by kernel_rfl) (by kernel_rfl) (fun _ _ _ h => h) (Or.inl ⟨by rfl, ?_⟩) hHeld ?_
        rotate_left
        · intro w hSw
          try dsimp only at hSw
          go_simp
          try (with_reducible rfl)
        simp only [Act.put, List.setIfInBounds_toArray, List.set_cons_zero, List.set_cons_succ]
        refine wpAnyH_take (i := 2) (oi := { dst := Option.some 108, op := Go.Op.move (Go.Operand.tmp 107), type := 4, pos := "laws.go:441", after := #[{ on := 1, ground := Go.Ground.data }], guard := Option.none }) (v := ?_) rfl (by kernel_rfl) (by kernel_rfl) (by kernel_rfl) (fun _ _ _ h => h) (Or.inl ⟨by rfl, ?_⟩) hHeld ?_
        rotate_left
        · intro w hSw
          try dsimp only at hSw
          go_simp
          try (with_reducible rfl)
        simp only [Act.put, List.setIfInBounds_toArray, List.set_cons_zero, List.set_cons_succ]
        refine wpAnyH_take (i := 3) (oi := { dst := Option.some 109, op := Go.Op.load 33 (Go.Operand.tmp 13), type := 33, pos := "laws.go:441", after := #[{ on := 2, ground := Go.Ground.guard }], guard := Option.some (2, Bool.false) }) (v := undef) rfl (by kernel_rfl) (by kernel_rfl) (by kernel_rfl) (fun _ _ _ h => h) (Or.inr ⟨by rfl, rfl⟩) hHeld ?_
        simp only [Act.put, List.setIfInBounds_toArray, List.set_cons_zero, List.set_cons_succ]
        refine wpAnyH_take (i := 4) (oi := { dst := Option.some 110, op := Go.Op.call { callee := Go.Callee.value (Go.Operand.func 12), args := #[Go.Operand.tmp 109], argTypes := #[33] }, type := 9, pos := "laws.go:441", after := #[{ on := 3, ground := Go.Ground.data }, { on := 2, ground := Go.Ground.chain }, { on := 2, ground := Go.Ground.guard }], guard := Option.some (2, Bool.false) }) (v := undef) rfl (by kernel_rfl) (by kernel_rfl) (by kernel_rfl) (fun _ _ _ h => h) (Or.inr ⟨by rfl, rfl⟩) hHeld ?_
        simp only [Act.put, List.setIfInBounds_toArray, List.set_cons_zero, List.set_cons_succ]
        refine wpAnyH_take (i := 5) (oi := { dst := Option.some 111, op := Go.Op.move (Go.Operand.tmp 12), type := 9, pos := "laws.go:441", after := #[{ on := 2, ground := Go.Ground.guard }], guard := Option.some (2, Bool.false) }) (v := undef) rfl (by kernel_rfl) (by kernel_rfl) (by kernel_rfl) (fun _ _ _ h => h) (Or.inr ⟨by rfl, rfl⟩) hHeld ?_
        simp only [Act.put, List.setIfInBounds_toArray, List.set_cons_zero, List.set_cons_succ]
        refine wpAnyH_take (i := 6) (oi := { dst := Option.some 112, op := Go.Op.binOp Go.BinOp.eql 9 (Go.Operand.tmp 110) (Go.Operand.tmp 111) 9, type := 4, pos := "laws.go:441", after := #[{ on := 4, ground := Go.Ground.data }, { on := 5, ground := Go.Ground.data }, { on := 2, ground := Go.Ground.guard }], guard := Option.some (2, Bool.false) }) (v := undef) rfl (by kernel_rfl) (by kernel_rfl) (by kernel_rfl) (fun _ _ _ h => h) (Or.inr ⟨by rfl, rfl⟩) hHeld ?_
        simp only [Act.put, List.setIfInBounds_toArray, List.set_cons_zero, List.set_cons_succ]
        refine wpAnyH_take (i := 7) (oi := { dst := Option.some 113, op := Go.Op.pick (Go.Operand.tmp 108) (Go.Operand.const (Go.Value.bool Bool.true)) (Go.Operand.tmp 112), type := 4, pos := "laws.go:441", after := #[{ on := 2, ground := Go.Ground.data }, { on := 6, ground := Go.Ground.data }], guard := Option.none }) (v := ?_) rfl (by kernel_rfl) (by kernel_rfl) (by kernel_rfl) (fun _ _ _ h => h) (Or.inl ⟨by rfl, ?_⟩) hHeld ?_
        rotate_left
        · intro w hSw
          try dsimp only at hSw
          go_simp
          try (with_reducible rfl)
        simp only [Act.put, List.setIfInBounds_toArray, List.set_cons_zero, List.set_cons_succ]
        refine wpAnyH_take (i := 8) (oi := { dst := Option.some 114, op := Go.Op.move (Go.Operand.tmp 113), type := 4, pos := "laws.go:441", after := #[{ on := 7, ground := Go.Ground.data }, { on := 4, ground := Go.Ground.chain }], guard := Option.none }) (v := ?_) rfl (by kernel_rfl) (by kernel_rfl) (by kernel_rfl) (fun _ _ _ h => h) (Or.inl ⟨by rfl, ?_⟩) hHeld ?_
        rotate_left
        · intro w hSw
          try dsimp only at hSw
          go_simp
          try (with_reducible rfl)
        simp only [Act.put, List.setIfInBounds_toArray, List.set_cons_zero, List.set_cons_succ]
        refine wpAnyH_take (i := 9) (oi := { dst := Option.some 115, op := Go.Op.move (Go.Operand.tmp 17), type := 4, pos := "laws.go:441", after := #[{ on := 8, ground := Go.Ground.guard }], guard := Option.some (8, Bool.true) }) (v := ?_) rfl (by kernel_rfl) (by kernel_rfl) (by kernel_rfl) (fun _ _ _ h => h) (Or.inl ⟨by rfl, ?_⟩) hHeld ?_
        rotate_left
        · intro w hSw
          try dsimp only at hSw
          go_simp
          try (with_reducible rfl)
        simp only [Act.put, List.setIfInBounds_toArray, List.set_cons_zero, List.set_cons_succ]
        refine wpAnyH_take (i := 10) (oi := { dst := Option.some 116, op := Go.Op.unOp Go.UnOp.not 4 (Go.Operand.tmp 115), type := 4, pos := "laws.go:441", after := #[{ on := 9, ground := Go.Ground.data }, { on := 8, ground := Go.Ground.guard }], guard := Option.some (8, Bool.true) }) (v := ?_) rfl (by kernel_rfl) (by kernel_rfl) (by kernel_rfl) (fun _ _ _ h => h) (Or.inl ⟨by rfl, ?_⟩) hHeld ?_
        rotate_left
        · intro w hSw
          try dsimp only at hSw
          go_simp
          try (with_reducible rfl)
        simp only [Act.put, List.setIfInBounds_toArray, List.set_cons_zero, List.set_cons_succ]
        refine wpAnyH_take (i := 11) (oi := { dst := Option.some 117, op := Go.Op.move (Go.Operand.tmp 116), type := 4, pos := "laws.go:441", after := #[{ on := 10, ground := Go.Ground.data }, { on := 8, ground := Go.Ground.chain }, { on := 8, ground := Go.Ground.guard }], guard := Option.some (8, Bool.true) }) (v := ?_) rfl (by kernel_rfl) (by kernel_rfl) (by kernel_rfl) (fun _ _ _ h => h) (Or.inl ⟨by rfl, ?_⟩) hHeld ?_
        rotate_left
        · intro w hSw
          try dsimp only at hSw
          go_simp
          try (with_reducible rfl)
        simp only [Act.put, List.setIfInBounds_toArray, List.set_cons_zero, List.set_cons_succ]
        refine wpAnyH_take (i := 12) (oi := { dst := Option.some 118, op := Go.Op.load 33 (Go.Operand.tmp 16), type := 33, pos := "laws.go:441", after := #[{ on := 11, ground := Go.Ground.guard }], guard := Option.some (11, Bool.false) }) (v := ?_) rfl (by kernel_rfl) (by kernel_rfl) (by kernel_rfl) (fun _ _ _ h => h) (Or.inl ⟨by rfl, ?_⟩) hHeld ?_
        rotate_left
        · intro w hSw
          try dsimp only at hSw
          go_simp
          try (with_reducible rfl)
        simp only [Act.put, List.setIfInBounds_toArray, List.set_cons_zero, List.set_cons_succ]
        refine wpAnyH_take (i := 14) (oi := { dst := Option.some 120, op := Go.Op.move (Go.Operand.tmp 15), type := 9, pos := "laws.go:441", after := #[{ on := 11, ground := Go.Ground.guard }], guard := Option.some (11, Bool.false) }) (v := ?_) rfl (by kernel_rfl) (by kernel_rfl) (by kernel_rfl) (fun _ _ _ h => h) (Or.inl ⟨by rfl, ?_⟩) hHeld ?_
        rotate_left
        · intro w hSw
          try dsimp only at hSw
          go_simp
          try (with_reducible rfl)
        simp only [Act.put, List.setIfInBounds_toArray, List.set_cons_zero, List.set_cons_succ]
        refine wpAnyH_ready (rs := [13]) (by kernel_rfl) (by decide) ?_
        refine AllReadyH.cons (o := { dst := Option.some 119, op := Go.Op.call { callee := Go.Callee.value (Go.Operand.func 12), args := #[Go.Operand.tmp 118], argTypes := #[33] }, type := 9, pos := "laws.go:441", after := #[{ on := 12, ground := Go.Ground.data }, { on := 11, ground := Go.Ground.chain }, { on := 11, ground := Go.Ground.guard }], guard := Option.some (11, Bool.false) }) rfl (fun K hK => ?_) AllReadyH.nil
        go_simp
        go_at_call 12
        refine (kU _ HSU_34.out).mono ?_
        rintro e v3 ⟨rfl, b3⟩
        have HT_37 : Hid (Tab v3) := HT_34.out.below b3 HT_34.out.pos
        have HB_37 : Hid (Below w0.heap.size w0 v3) := HB_34.out.trans (b3.mono HB_34.out.size)
        have K3_37 : Hid (Blk v3 w1.heap.size [.int .i64 yh, .int .i64 yt, .string ya, .string yv, .string yn, .string yd] 25) := K3_34.out.below b3 K3_34.out.lt
        have HSZ_37 : Hid (SO v3 za zl) := SO.below HSZ_34.out b3
        have K13_37 : Hid (Blk v3 w14.heap.size [.int .i64 zh, .int .i64 zr, .string zi, .slice za zl.length zc] 33) := K13_34.out.below b3 K13_34.out.lt
        have HSU_37 : Hid (SO v3 ua ul) := SO.below HSU_34.out b3
        have K16_37 : Hid (Blk v3 w17.heap.size [.int .i64 uh, .int .i64 ur, .string ui, .slice ua ul.length uc] 33) := K16_34.out.below b3 K16_34.out.lt
        clear b3
        refine hK.out _ _ (⟨⟨K3_37.out.cell 0 rfl, K3_37.out.cell 1 rfl, K3_37.out.cell 2 rfl, K3_37.out.cell 3 rfl, K3_37.out.cell 4 rfl, K3_37.out.cell 5 rfl⟩, ⟨K13_37.out.cell 0 rfl, K13_37.out.cell 1 rfl, K13_37.out.cell 2 rfl, K13_37.out.cell 3 rfl⟩, ⟨K16_37.out.cell 0 rfl, K16_37.out.cell 1 rfl, K16_37.out.cell 2 rfl, K16_37.out.cell 3 rfl⟩⟩) (fun hHeld => ?_)
        clear hK K
        try simp only [Act.put, List.setIfInBounds_toArray, List.set_cons_zero, List.set_cons_succ]
        refine wpAnyH_take (i := 15) (oi := { dst := Option.some 121, op := Go.Op.binOp Go.BinOp.eql 9 (Go.Operand.tmp 119) (Go.Operand.tmp 120) 9, type := 4, pos := "laws.go:441", after := #[{ on := 13, ground := Go.Ground.data }, { on := 14, ground := Go.Ground.data }, { on := 11, ground := Go.Ground.guard }], guard := Option.some (11, Bool.false) }) (v := ?_) rfl (by kernel_rfl) (by kernel_rfl) (by kernel_rfl) (fun _ _ _ h => h) (Or.inl ⟨by rfl, ?_⟩) hHeld ?_
        rotate_left
        · intro w hSw
          try dsimp only at hSw
          go_simp
          try (with_reducible rfl)
        simp only [Act.put, List.setIfInBounds_toArray, List.set_cons_zero, List.set_cons_succ]
        refine wpAnyH_take (i := 16) (oi := { dst := Option.some 122, op := Go.Op.pick (Go.Operand.tmp 117) (Go.Operand.const (Go.Value.bool Bool.true)) (Go.Operand.tmp 121), type := 4, pos := "laws.go:441", after := #[{ on := 11, ground := Go.Ground.data }, { on := 15, ground := Go.Ground.data }, { on := 8, ground := Go.Ground.guard }], guard := Option.some (8, Bool.true) }) (v := ?_) rfl (by kernel_rfl) (by kernel_rfl) (by kernel_rfl) (fun _ _ _ h => h) (Or.inl ⟨by rfl, ?_⟩) hHeld ?_
        rotate_left
        · intro w hSw
          try dsimp only at hSw
          go_simp
          try (with_reducible rfl)
        simp only [Act.put, List.setIfInBounds_toArray, List.set_cons_zero, List.set_cons_succ]
        refine wpAnyH_take (i := 17) (oi := { dst := Option.some 123, op := Go.Op.pick (Go.Operand.tmp 114) (Go.Operand.tmp 122) (Go.Operand.const (Go.Value.bool Bool.false)), type := 4, pos := "laws.go:441", after := #[{ on := 8, ground := Go.Ground.data }, { on := 16, ground := Go.Ground.data }], guard := Option.none }) (v := ?_) rfl (by kernel_rfl) (by kernel_rfl) (by kernel_rfl) (fun _ _ _ h => h) (Or.inl ⟨by rfl, ?_⟩) hHeld ?_
        rotate_left
        · intro w hSw
          try dsimp only at hSw
          go_simp
          try (with_reducible rfl)
        simp only [Act.put, List.setIfInBounds_toArray, List.set_cons_zero, List.set_cons_succ]
        refine wpAnyH_take (i := 18) (oi := { dst := Option.some 124, op := Go.Op.move (Go.Operand.tmp 123), type := 4, pos := "laws.go:441", after := #[{ on := 17, ground := Go.Ground.data }, { on := 13, ground := Go.Ground.chain }], guard := Option.none }) (v := ?_) rfl (by kernel_rfl) (by kernel_rfl) (by kernel_rfl) (fun _ _ _ h => h) (Or.inl ⟨by rfl, ?_⟩) hHeld ?_
        rotate_left
        · intro w hSw
          try dsimp only at hSw
          go_simp
          try (with_reducible rfl)
        simp only [Act.put, List.setIfInBounds_toArray, List.set_cons_zero, List.set_cons_succ]
        refine wpAnyH_take (i := 19) (oi := { dst := Option.some 125, op := Go.Op.load 25 (Go.Operand.tmp 3), type := 25, pos := "laws.go:441", after := #[{ on := 18, ground := Go.Ground.guard }], guard := Option.some (18, Bool.true) }) (v := ?_) rfl (by kernel_rfl) (by kernel_rfl) (by kernel_rfl) (fun _ _ _ h => h) (Or.inl ⟨by rfl, ?_⟩) hHeld ?_
        rotate_left
        · intro w hSw
          try dsimp only at hSw
          go_simp
          try (with_reducible rfl)
        simp only [Act.put, List.setIfInBounds_toArray, List.set_cons_zero, List.set_cons_succ]
        refine wpAnyH_take (i := 22) (oi := { dst := Option.some 128, op := Go.Op.load 25 (Go.Operand.tmp 3), type := 25, pos := "laws.go:441", after := #[{ on := 18, ground := Go.Ground.guard }], guard := Option.some (18, Bool.true) }) (v := ?_) rfl (by kernel_rfl) (by kernel_rfl) (by kernel_rfl) (fun _ _ _ h => h) (Or.inl ⟨by rfl, ?_⟩) hHeld ?_
        rotate_left
        · intro w hSw
          try dsimp only at hSw
          go_simp
          try (with_reducible rfl)
        simp only [Act.put, List.setIfInBounds_toArray, List.set_cons_zero, List.set_cons_succ]
        refine wpAnyH_ready (rs := [20]) (by kernel_rfl) (by decide) ?_
        refine AllReadyH.cons (o := { dst := Option.some 126, op := Go.Op.call { callee := Go.Callee.value (Go.Operand.func 18), args := #[Go.Operand.tmp 125], argTypes := #[25] }, type := 9, pos := "laws.go:441", after := #[{ on := 19, ground := Go.Ground.data }, { on := 18, ground := Go.Ground.chain }, { on := 18, ground := Go.Ground.guard }], guard := Option.some (18, Bool.true) }) rfl (fun K hK => ?_) AllReadyH.nil
        go_simp
        go_at_call 18
        refine (kI _ HT_37.out).mono ?_
        rintro e v4 ⟨rfl, b4⟩
        have HT_38 : Hid (Tab v4) := HT_37.out.below b4 HT_37.out.pos
        have HB_38 : Hid (Below w0.heap.size w0 v4) := HB_37.out.trans (b4.mono HB_37.out.size)
        have K3_38 : Hid (Blk v4 w1.heap.size [.int .i64 yh, .int .i64 yt, .string ya, .string yv, .string yn, .string yd] 25) := K3_37.out.below b4 K3_37.out.lt
        have HSZ_38 : Hid (SO v4 za zl) := SO.below HSZ_37.out b4
        have K13_38 : Hid (Blk v4 w14.heap.size [.int .i64 zh, .int .i64 zr, .string zi, .slice za zl.length zc] 33) := K13_37.out.below b4 K13_37.out.lt
        have HSU_38 : Hid (SO v4 ua ul) := SO.below HSU_37.out b4
        have K16_38 : Hid (Blk v4 w17.heap.size [.int .i64 uh, .int .i64 ur, .string ui, .slice ua ul.length uc] 33) := K16_37.out.below b4 K16_37.out.lt
        clear b4
        refine hK.out _ _ (⟨⟨K3_38.out.cell 0 rfl, K3_38.out.cell 1 rfl, K3_38.out.cell 2 rfl, K3_38.out.cell 3 rfl, K3_38.out.cell 4 rfl, K3_38.out.cell 5 rfl⟩, ⟨K13_38.out.cell 0 rfl, K13_38.out.cell 1 rfl, K13_38.out.cell 2 rfl, K13_38.out.cell 3 rfl⟩, ⟨K16_38.out.cell 0 rfl, K16_38.out.cell 1 rfl, K16_38.out.cell 2 rfl, K16_38.out.cell 3 rfl⟩⟩) (fun hHeld => ?_)
        clear hK K
        try simp only [Act.put, List.setIfInBounds_toArray, List.set_cons_zero, List.set_cons_succ]
        refine wpAnyH_take (i := 21) (oi := { dst := Option.some 127, op := Go.Op.call { callee := Go.Callee.builtin Go.Builtin.len, args := #[Go.Operand.tmp 126], argTypes := #[9] }, type := 3, pos := "laws.go:441", after := #[{ on := 20, ground := Go.Ground.data }, { on := 18, ground := Go.Ground.guard }], guard := Option.some (18, Bool.true) }) (v := ?_) rfl (by kernel_rfl) (by kernel_rfl) (by kernel_rfl) (fun _ _ _ h => h) (Or.inl ⟨by rfl, ?_⟩) hHeld ?_
        rotate_left
        · intro w hSw
          try dsimp only at hSw
          go_simp
          try (with_reducible rfl)
        simp only [Act.put, List.setIfInBounds_toArray, List.set_cons_zero, List.set_cons_succ]
        refine wpAnyH_ready (rs := [23]) (by kernel_rfl) (by decide) ?_
        refine AllReadyH.cons (o := { dst := Option.some 129, op := Go.Op.call { callee := Go.Callee.value (Go.Operand.func 19), args := #[Go.Operand.tmp 128], argTypes := #[25] }, type := 9, pos := "laws.go:441", after := #[{ on := 22, ground := Go.Ground.data }, { on := 20, ground := Go.Ground.chain }, { on := 18, ground := Go.Ground.guard }], guard := Option.some (18, Bool.true) }) rfl (fun K hK => ?_) AllReadyH.nil
        go_simp
        go_at_call 19
        refine (kJ _).mono ?_
        rintro e v5 ⟨rfl, b5⟩
        have HT_39 : Hid (Tab v5) := HT_38.out.below b5 HT_38.out.pos
        have HB_39 : Hid (Below w0.heap.size w0 v5) := HB_38.out.trans (b5.mono HB_38.out.size)
        have K3_39 : Hid (Blk v5 w1.heap.size [.int .i64 yh, .int .i64 yt, .string ya, .string yv, .string yn, .string yd] 25) := K3_38.out.below b5 K3_38.out.lt
        have HSZ_39 : Hid (SO v5 za zl) := SO.below HSZ_38.out b5
        have K13_39 : Hid (Blk v5 w14.heap.size [.int .i64 zh, .int .i64 zr, .string zi, .slice za zl.length zc] 33) := K13_38.out.below b5 K13_38.out.lt
        have HSU_39 : Hid (SO v5 ua ul) := SO.below HSU_38.out b5
        have K16_39 : Hid (Blk v5 w17.heap.size [.int .i64 uh, .int .i64 ur, .string ui, .slice ua ul.length uc] 33) := K16_38.out.below b5 K16_38.out.lt
        clear b5
        refine hK.out _ _ (⟨⟨K3_39.out.cell 0 rfl, K3_39.out.cell 1 rfl, K3_39.out.cell 2 rfl, K3_39.out.cell 3 rfl, K3_39.out.cell 4 rfl, K3_39.out.cell 5 rfl⟩, ⟨K13_39.out.cell 0 rfl, K13_39.out.cell 1 rfl, K13_39.out.cell 2 rfl, K13_39.out.cell 3 rfl⟩, ⟨K16_39.out.cell 0 rfl, K16_39.out.cell 1 rfl, K16_39.out.cell 2 rfl, K16_39.out.cell 3 rfl⟩⟩) (fun hHeld => ?_)
        clear hK K
        try simp only [Act.put, List.setIfInBounds_toArray, List.set_cons_zero, List.set_cons_succ]
        refine wpAnyH_take (i := 24) (oi := { dst := Option.some 130, op := Go.Op.call { callee := Go.Callee.builtin Go.Builtin.len, args := #[Go.Operand.tmp 129], argTypes := #[9] }, type := 3, pos := "laws.go:441", after := #[{ on := 23, ground := Go.Ground.data }, { on := 18, ground := Go.Ground.guard }], guard := Option.some (18, Bool.true) }) (v := ?_) rfl (by kernel_rfl) (by kernel_rfl) (by kernel_rfl) (fun _ _ _ h => h) (Or.inl ⟨by rfl, ?_⟩) hHeld ?_
        rotate_left
        · intro w hSw
          try dsimp only at hSw
          go_simp
          try (with_reducible rfl)
        simp only [Act.put, List.setIfInBounds_toArray, List.set_cons_zero, List.set_cons_succ]
        refine wpAnyH_take (i := 25) (oi := { dst := Option.some 131, op := Go.Op.binOp Go.BinOp.eql 3 (Go.Operand.tmp 127) (Go.Operand.tmp 130) 3, type := 4, pos := "laws.go:441", after := #[{ on := 21, ground := Go.Ground.data }, { on := 24, ground := Go.Ground.data }, { on := 18, ground := Go.Ground.guard }], guard := Option.some (18, Bool.true) }) (v := ?_) rfl (by kernel_rfl) (by kernel_rfl) (by kernel_rfl) (fun _ _ _ h => h) (Or.inl ⟨by rfl, ?_⟩) hHeld ?_
        rotate_left
        · intro w hSw
          try dsimp only at hSw
          go_simp
          try (with_reducible rfl)
        simp only [Act.put, List.setIfInBounds_toArray, List.set_cons_zero, List.set_cons_succ]
        refine wpAnyH_take (i := 26) (oi := { dst := Option.some 132, op := Go.Op.pick (Go.Operand.tmp 124) (Go.Operand.tmp 131) (Go.Operand.const (Go.Value.bool Bool.false)), type := 4, pos := "laws.go:441", after := #[{ on := 18, ground := Go.Ground.data }, { on := 25, ground := Go.Ground.data }], guard := Option.none }) (v := ?_) rfl (by kernel_rfl) (by kernel_rfl) (by kernel_rfl) (fun _ _ _ h => h) (Or.inl ⟨by rfl, ?_⟩) hHeld ?_
        rotate_left
        · intro w hSw
          try dsimp only at hSw
          go_simp
          try (with_reducible rfl)
        simp only [Act.put, List.setIfInBounds_toArray, List.set_cons_zero, List.set_cons_succ]
        refine wpAnyH_take (i := 27) (oi := { dst := Option.some 2, op := Go.Op.assign (Go.Operand.tmp 132), type := 4, pos := "laws.go:441", after := #[{ on := 26, ground := Go.Ground.data }, { on := 23, ground := Go.Ground.chain }, { on := 0, ground := Go.Ground.phase }, { on := 1, ground := Go.Ground.phase }, { on := 2, ground := Go.Ground.phase }, { on := 3, ground := Go.Ground.phase }, { on := 4, ground := Go.Ground.phase }, { on := 5, ground := Go.Ground.phase }, { on := 6, ground := Go.Ground.phase }, { on := 7, ground := Go.Ground.phase }, { on := 8, ground := Go.Ground.phase }, { on := 9, ground := Go.Ground.phase }, { on := 10, ground := Go.Ground.phase }, { on := 11, ground := Go.Ground.phase }, { on := 12, ground := Go.Ground.phase }, { on := 13, ground := Go.Ground.phase }, { on := 14, ground := Go.Ground.phase }, { on := 15, ground := Go.Ground.phase }, { on := 16, ground := Go.Ground.phase }, { on := 17, ground := Go.Ground.phase }, { on := 18, ground := Go.Ground.phase }, { on := 19, ground := Go.Ground.phase }, { on := 20, ground := Go.Ground.phase }, { on := 21, ground := Go.Ground.phase }, { on := 22, ground := Go.Ground.phase }, { on := 23, ground := Go.Ground.phase }, { on := 24, ground := Go.Ground.phase }, { on := 25, ground := Go.Ground.phase }, { on := 26, ground := Go.Ground.phase }], guard := Option.none }) (v := ?_) rfl (by kernel_rfl) (by kernel_rfl) (by kernel_rfl) (fun _ _ _ h => h) (Or.inl ⟨by rfl, ?_⟩) hHeld ?_
        rotate_left
        · intro w hSw
          try dsimp only at hSw
          go_simp
          try (with_reducible rfl)
        simp only [Act.put, List.setIfInBounds_toArray, List.set_cons_zero, List.set_cons_succ]
        refine wpAnyH_done (by kernel_rfl) ?_ _
        go_wp2
        go_ret
        exact ⟨rfl, HB_39.out⟩
    · rcases whole with _ | _
      · have hfin := trivial
        have hz := hK.out rfl
        have kZ := fun W (h : SO W za zl) => impl_showC ⟨zh, zr, zi, zl⟩ za zc W h hz.2
        rw [hz.1] at kZ
        unfold cV at kZ
        simp only at kZ
        clear hK hU
        go_wp2_with fail
        refine wp_region_held_drew (S := (fun W : World => (W.cell? ⟨w1.heap.size, 0, none⟩ = some (.int .i64 yh) ∧ W.cell? ⟨w1.heap.size, 1, none⟩ = some (.int .i64 yt) ∧ W.cell? ⟨w1.heap.size, 2, none⟩ = some (.string ya) ∧ W.cell? ⟨w1.heap.size, 3, none⟩ = some (.string yv) ∧ W.cell? ⟨w1.heap.size, 4, none⟩ = some (.string yn) ∧ W.cell? ⟨w1.heap.size, 5, none⟩ = some (.string yd)) ∧ (W.cell? ⟨w14.heap.size, 0, none⟩ = some (.int .i64 zh) ∧ W.cell? ⟨w14.heap.size, 1, none⟩ = some (.int .i64 zr) ∧ W.cell? ⟨w14.heap.size, 2, none⟩ = some (.string zi) ∧ W.cell? ⟨w14.heap.size, 3, none⟩ = some (.slice za zl.length zc)) ∧ (W.cell? ⟨w17.heap.size, 0, none⟩ = some (.int .i64 uh) ∧ W.cell? ⟨w17.heap.size, 1, none⟩ = some (.int .i64 ur) ∧ W.cell? ⟨w17.heap.size, 2, none⟩ = some (.string ui) ∧ W.cell? ⟨w17.heap.size, 3, none⟩ = some (.slice ua ul.length uc)))) (by kernel_rfl) ?_ (fun hHeld => ?_)
        · exact ⟨⟨K3_34.out.cell 0 rfl, K3_34.out.cell 1 rfl, K3_34.out.cell 2 rfl, K3_34.out.cell 3 rfl, K3_34.out.cell 4 rfl, K3_34.out.cell 5 rfl⟩, ⟨K13_34.out.cell 0 rfl, K13_34.out.cell 1 rfl, K13_34.out.cell 2 rfl, K13_34.out.cell 3 rfl⟩, ⟨K16_34.out.cell 0 rfl, K16_34.out.cell 1 rfl, K16_34.out.cell 2 rfl, K16_34.out.cell 3 rfl⟩⟩
        generalize w21.drew = wd at *
        refine wpAnyH_take (i := 0) (oi := { dst := Option.some 106, op := Go.Op.move (Go.Operand.tmp 14), type := 4, pos := "laws.go:441", after := #[], guard := Option.none }) (v := ?_) rfl (by kernel_rfl) (by kernel_rfl) (by kernel_rfl) (fun _ _ _ h => h) (Or.inl ⟨by rfl, ?_⟩) hHeld ?_
        rotate_left
        · intro w hSw
          try dsimp only at hSw
          go_simp
          try (with_reducible rfl)
        simp only [Act.put, List.setIfInBounds_toArray, List.set_cons_zero, List.set_cons_succ]
        refine wpAnyH_take (i := 1) (oi := { dst := Option.some 107, op := Go.Op.unOp Go.UnOp.not 4 (Go.Operand.tmp 106), type := 4, pos := "laws.go:441", after := #[{ on := 0, ground := Go.Ground.data }], guard := Option.none }) (v := ?_) rfl (by kernel_rfl) (by kernel_rfl) (by kernel_rfl) (fun _ _ _ h => h) (Or.inl ⟨by rfl, ?_⟩) hHeld ?_
        rotate_left
        · intro w hSw
          try dsimp only at hSw
          go_simp
          try (with_reducible rfl)
        simp only [Act.put, List.setIfInBounds_toArray, List.set_cons_zero, List.set_cons_succ]
        refine wpAnyH_take (i := 2) (oi := { dst := Option.some 108, op := Go.Op.move (Go.Operand.tmp 107), type := 4, pos := "laws.go:441", after := #[{ on := 1, ground := Go.Ground.data }], guard := Option.none }) (v := ?_) rfl (by kernel_rfl) (by kernel_rfl) (by kernel_rfl) (fun _ _ _ h => h) (Or.inl ⟨by rfl, ?_⟩) hHeld ?_
        rotate_left
        · intro w hSw
          try dsimp only at hSw
          go_simp
          try (with_reducible rfl)
        simp only [Act.put, List.setIfInBounds_toArray, List.set_cons_zero, List.set_cons_succ]
        refine wpAnyH_take (i := 3) (oi := { dst := Option.some 109, op := Go.Op.load 33 (Go.Operand.tmp 13), type := 33, pos := "laws.go:441", after := #[{ on := 2, ground := Go.Ground.guard }], guard := Option.some (2, Bool.false) }) (v := ?_) rfl (by kernel_rfl) (by kernel_rfl) (by kernel_rfl) (fun _ _ _ h => h) (Or.inl ⟨by rfl, ?_⟩) hHeld ?_
        rotate_left
        · intro w hSw
          try dsimp only at hSw
          go_simp
          try (with_reducible rfl)
        simp only [Act.put, List.setIfInBounds_toArray, List.set_cons_zero, List.set_cons_succ]
        refine wpAnyH_take (i := 5) (oi := { dst := Option.some 111, op := Go.Op.move (Go.Operand.tmp 12), type := 9, pos := "laws.go:441", after := #[{ on := 2, ground := Go.Ground.guard }], guard := Option.some (2, Bool.false) }) (v := ?_) rfl (by kernel_rfl) (by kernel_rfl) (by kernel_rfl) (fun _ _ _ h => h) (Or.inl ⟨by rfl, ?_⟩) hHeld ?_
        rotate_left
        · intro w hSw
          try dsimp only at hSw
          go_simp
          try (with_reducible rfl)
        simp only [Act.put, List.setIfInBounds_toArray, List.set_cons_zero, List.set_cons_succ]
        refine wpAnyH_ready (rs := [4]) (by kernel_rfl) (by decide) ?_
        refine AllReadyH.cons (o := { dst := Option.some 110, op := Go.Op.call { callee := Go.Callee.value (Go.Operand.func 12), args := #[Go.Operand.tmp 109], argTypes := #[33] }, type := 9, pos := "laws.go:441", after := #[{ on := 3, ground := Go.Ground.data }, { on := 2, ground := Go.Ground.chain }, { on := 2, ground := Go.Ground.guard }], guard := Option.some (2, Bool.false) }) rfl (fun K hK => ?_) AllReadyH.nil
        go_simp
        go_at_call 12
        refine (kZ _ HSZ_34.out).mono ?_
        rintro e v6 ⟨rfl, b6⟩
        have HT_40 : Hid (Tab v6) := HT_34.out.below b6 HT_34.out.pos
        have HB_40 : Hid (Below w0.heap.size w0 v6) := HB_34.out.trans (b6.mono HB_34.out.size)
        have K3_40 : Hid (Blk v6 w1.heap.size [.int .i64 yh, .int .i64 yt, .string ya, .string yv, .string yn, .string yd] 25) := K3_34.out.below b6 K3_34.out.lt
        have HSZ_40 : Hid (SO v6 za zl) := SO.below HSZ_34.out b6
        have K13_40 : Hid (Blk v6 w14.heap.size [.int .i64 zh, .int .i64 zr, .string zi, .slice za zl.length zc] 33) := K13_34.out.below b6 K13_34.out.lt
        have HSU_40 : Hid (SO v6 ua ul) := SO.below HSU_34.out b6
        have K16_40 : Hid (Blk v6 w17.heap.size [.int .i64 uh, .int .i64 ur, .string ui, .slice ua ul.length uc] 33) := K16_34.out.below b6 K16_34.out.lt
        clear b6
        refine hK.out _ _ (⟨⟨K3_40.out.cell 0 rfl, K3_40.out.cell 1 rfl, K3_40.out.cell 2 rfl, K3_40.out.cell 3 rfl, K3_40.out.cell 4 rfl, K3_40.out.cell 5 rfl⟩, ⟨K13_40.out.cell 0 rfl, K13_40.out.cell 1 rfl, K13_40.out.cell 2 rfl, K13_40.out.cell 3 rfl⟩, ⟨K16_40.out.cell 0 rfl, K16_40.out.cell 1 rfl, K16_40.out.cell 2 rfl, K16_40.out.cell 3 rfl⟩⟩) (fun hHeld => ?_)
        clear hK K
        try simp only [Act.put, List.setIfInBounds_toArray, List.set_cons_zero, List.set_cons_succ]
        refine wpAnyH_take (i := 6) (oi := { dst := Option.some 112, op := Go.Op.binOp Go.BinOp.eql 9 (Go.Operand.tmp 110) (Go.Operand.tmp 111) 9, type := 4, pos := "laws.go:441", after := #[{ on := 4, ground := Go.Ground.data }, { on := 5, ground := Go.Ground.data }, { on := 2, ground := Go.Ground.guard }], guard := Option.some (2, Bool.false) }) (v := ?_) rfl (by kernel_rfl) (by kernel_rfl) (by kernel_rfl) (fun _ _ _ h => h) (Or.inl ⟨by rfl, ?_⟩) hHeld ?_
        rotate_left
        · intro w hSw
          try dsimp only at hSw
          go_simp
          try (with_reducible rfl)
        simp only [Act.put, List.setIfInBounds_toArray, List.set_cons_zero, List.set_cons_succ]
        refine wpAnyH_take (i := 7) (oi := { dst := Option.some 113, op := Go.Op.pick (Go.Operand.tmp 108) (Go.Operand.const (Go.Value.bool Bool.true)) (Go.Operand.tmp 112), type := 4, pos := "laws.go:441", after := #[{ on := 2, ground := Go.Ground.data }, { on := 6, ground := Go.Ground.data }], guard := Option.none }) (v := ?_) rfl (by kernel_rfl) (by kernel_rfl) (by kernel_rfl) (fun _ _ _ h => h) (Or.inl ⟨by rfl, ?_⟩) hHeld ?_
        rotate_left
        · intro w hSw
          try dsimp only at hSw
          go_simp
          try (with_reducible rfl)
        simp only [Act.put, List.setIfInBounds_toArray, List.set_cons_zero, List.set_cons_succ]
        refine wpAnyH_take (i := 8) (oi := { dst := Option.some 114, op := Go.Op.move (Go.Operand.tmp 113), type := 4, pos := "laws.go:441", after := #[{ on := 7, ground := Go.Ground.data }, { on := 4, ground := Go.Ground.chain }], guard := Option.none }) (v := ?_) rfl (by kernel_rfl) (by kernel_rfl) (by kernel_rfl) (fun _ _ _ h => h) (Or.inl ⟨by rfl, ?_⟩) hHeld ?_
        rotate_left
        · intro w hSw
          try dsimp only at hSw
          go_simp
          try (with_reducible rfl)
        simp only [Act.put, List.setIfInBounds_toArray, List.set_cons_zero, List.set_cons_succ]
        refine wpAnyH_take (i := 9) (oi := { dst := Option.some 115, op := Go.Op.move (Go.Operand.tmp 17), type := 4, pos := "laws.go:441", after := #[{ on := 8, ground := Go.Ground.guard }], guard := Option.some (8, Bool.true) }) (v := ?_) rfl (by kernel_rfl) (by kernel_rfl) (by kernel_rfl) (fun _ _ _ h => h) (Or.inl ⟨by rfl, ?_⟩) hHeld ?_
        rotate_left
        · intro w hSw
          try dsimp only at hSw
          go_simp
          try (with_reducible rfl)
        simp only [Act.put, List.setIfInBounds_toArray, List.set_cons_zero, List.set_cons_succ]
        refine wpAnyH_take (i := 10) (oi := { dst := Option.some 116, op := Go.Op.unOp Go.UnOp.not 4 (Go.Operand.tmp 115), type := 4, pos := "laws.go:441", after := #[{ on := 9, ground := Go.Ground.data }, { on := 8, ground := Go.Ground.guard }], guard := Option.some (8, Bool.true) }) (v := ?_) rfl (by kernel_rfl) (by kernel_rfl) (by kernel_rfl) (fun _ _ _ h => h) (Or.inl ⟨by rfl, ?_⟩) hHeld ?_
        rotate_left
        · intro w hSw
          try dsimp only at hSw
          go_simp
          try (with_reducible rfl)
        simp only [Act.put, List.setIfInBounds_toArray, List.set_cons_zero, List.set_cons_succ]
        refine wpAnyH_take (i := 11) (oi := { dst := Option.some 117, op := Go.Op.move (Go.Operand.tmp 116), type := 4, pos := "laws.go:441", after := #[{ on := 10, ground := Go.Ground.data }, { on := 8, ground := Go.Ground.chain }, { on := 8, ground := Go.Ground.guard }], guard := Option.some (8, Bool.true) }) (v := ?_) rfl (by kernel_rfl) (by kernel_rfl) (by kernel_rfl) (fun _ _ _ h => h) (Or.inl ⟨by rfl, ?_⟩) hHeld ?_
        rotate_left
        · intro w hSw
          try dsimp only at hSw
          go_simp
          try (with_reducible rfl)
        simp only [Act.put, List.setIfInBounds_toArray, List.set_cons_zero, List.set_cons_succ]
        refine wpAnyH_take (i := 12) (oi := { dst := Option.some 118, op := Go.Op.load 33 (Go.Operand.tmp 16), type := 33, pos := "laws.go:441", after := #[{ on := 11, ground := Go.Ground.guard }], guard := Option.some (11, Bool.false) }) (v := undef) rfl (by kernel_rfl) (by kernel_rfl) (by kernel_rfl) (fun _ _ _ h => h) (Or.inr ⟨by rfl, rfl⟩) hHeld ?_
        simp only [Act.put, List.setIfInBounds_toArray, List.set_cons_zero, List.set_cons_succ]
        refine wpAnyH_take (i := 13) (oi := { dst := Option.some 119, op := Go.Op.call { callee := Go.Callee.value (Go.Operand.func 12), args := #[Go.Operand.tmp 118], argTypes := #[33] }, type := 9, pos := "laws.go:441", after := #[{ on := 12, ground := Go.Ground.data }, { on := 11, ground := Go.Ground.chain }, { on := 11, ground := Go.Ground.guard }], guard := Option.some (11, Bool.false) }) (v := undef) rfl (by kernel_rfl) (by kernel_rfl) (by kernel_rfl) (fun _ _ _ h => h) (Or.inr ⟨by rfl, rfl⟩) hHeld ?_
        simp only [Act.put, List.setIfInBounds_toArray, List.set_cons_zero, List.set_cons_succ]
        refine wpAnyH_take (i := 14) (oi := { dst := Option.some 120, op := Go.Op.move (Go.Operand.tmp 15), type := 9, pos := "laws.go:441", after := #[{ on := 11, ground := Go.Ground.guard }], guard := Option.some (11, Bool.false) }) (v := undef) rfl (by kernel_rfl) (by kernel_rfl) (by kernel_rfl) (fun _ _ _ h => h) (Or.inr ⟨by rfl, rfl⟩) hHeld ?_
        simp only [Act.put, List.setIfInBounds_toArray, List.set_cons_zero, List.set_cons_succ]
        refine wpAnyH_take (i := 15) (oi := { dst := Option.some 121, op := Go.Op.binOp Go.BinOp.eql 9 (Go.Operand.tmp 119) (Go.Operand.tmp 120) 9, type := 4, pos := "laws.go:441", after := #[{ on := 13, ground := Go.Ground.data }, { on := 14, ground := Go.Ground.data }, { on := 11, ground := Go.Ground.guard }], guard := Option.some (11, Bool.false) }) (v := undef) rfl (by kernel_rfl) (by kernel_rfl) (by kernel_rfl) (fun _ _ _ h => h) (Or.inr ⟨by rfl, rfl⟩) hHeld ?_
        simp only [Act.put, List.setIfInBounds_toArray, List.set_cons_zero, List.set_cons_succ]
        refine wpAnyH_take (i := 16) (oi := { dst := Option.some 122, op := Go.Op.pick (Go.Operand.tmp 117) (Go.Operand.const (Go.Value.bool Bool.true)) (Go.Operand.tmp 121), type := 4, pos := "laws.go:441", after := #[{ on := 11, ground := Go.Ground.data }, { on := 15, ground := Go.Ground.data }, { on := 8, ground := Go.Ground.guard }], guard := Option.some (8, Bool.true) }) (v := ?_) rfl (by kernel_rfl) (by kernel_rfl) (by kernel_rfl) (fun _ _ _ h => h) (Or.inl ⟨by rfl, ?_⟩) hHeld ?_
        rotate_left
        · intro w hSw
          try dsimp only at hSw
          go_simp
          try (with_reducible rfl)
        simp only [Act.put, List.setIfInBounds_toArray, List.set_cons_zero, List.set_cons_succ]
        refine wpAnyH_take (i := 17) (oi := { dst := Option.some 123, op := Go.Op.pick (Go.Operand.tmp 114) (Go.Operand.tmp 122) (Go.Operand.const (Go.Value.bool Bool.false)), type := 4, pos := "laws.go:441", after := #[{ on := 8, ground := Go.Ground.data }, { on := 16, ground := Go.Ground.data }], guard := Option.none }) (v := ?_) rfl (by kernel_rfl) (by kernel_rfl) (by kernel_rfl) (fun _ _ _ h => h) (Or.inl ⟨by rfl, ?_⟩) hHeld ?_
        rotate_left
        · intro w hSw
          try dsimp only at hSw
          go_simp
          try (with_reducible rfl)
        simp only [Act.put, List.setIfInBounds_toArray, List.set_cons_zero, List.set_cons_succ]
        refine wpAnyH_take (i := 18) (oi := { dst := Option.some 124, op := Go.Op.move (Go.Operand.tmp 123), type := 4, pos := "laws.go:441", after := #[{ on := 17, ground := Go.Ground.data }, { on := 13, ground := Go.Ground.chain }], guard := Option.none }) (v := ?_) rfl (by kernel_rfl) (by kernel_rfl) (by kernel_rfl) (fun _ _ _ h => h) (Or.inl ⟨by rfl, ?_⟩) hHeld ?_
        rotate_left
        · intro w hSw
          try dsimp only at hSw
          go_simp
          try (with_reducible rfl)
        simp only [Act.put, List.setIfInBounds_toArray, List.set_cons_zero, List.set_cons_succ]
        refine wpAnyH_take (i := 19) (oi := { dst := Option.some 125, op := Go.Op.load 25 (Go.Operand.tmp 3), type := 25, pos := "laws.go:441", after := #[{ on := 18, ground := Go.Ground.guard }], guard := Option.some (18, Bool.true) }) (v := ?_) rfl (by kernel_rfl) (by kernel_rfl) (by kernel_rfl) (fun _ _ _ h => h) (Or.inl ⟨by rfl, ?_⟩) hHeld ?_
        rotate_left
        · intro w hSw
          try dsimp only at hSw
          go_simp
          try (with_reducible rfl)
        simp only [Act.put, List.setIfInBounds_toArray, List.set_cons_zero, List.set_cons_succ]
        refine wpAnyH_take (i := 22) (oi := { dst := Option.some 128, op := Go.Op.load 25 (Go.Operand.tmp 3), type := 25, pos := "laws.go:441", after := #[{ on := 18, ground := Go.Ground.guard }], guard := Option.some (18, Bool.true) }) (v := ?_) rfl (by kernel_rfl) (by kernel_rfl) (by kernel_rfl) (fun _ _ _ h => h) (Or.inl ⟨by rfl, ?_⟩) hHeld ?_
        rotate_left
        · intro w hSw
          try dsimp only at hSw
          go_simp
          try (with_reducible rfl)
        simp only [Act.put, List.setIfInBounds_toArray, List.set_cons_zero, List.set_cons_succ]
        refine wpAnyH_ready (rs := [20]) (by kernel_rfl) (by decide) ?_
        refine AllReadyH.cons (o := { dst := Option.some 126, op := Go.Op.call { callee := Go.Callee.value (Go.Operand.func 18), args := #[Go.Operand.tmp 125], argTypes := #[25] }, type := 9, pos := "laws.go:441", after := #[{ on := 19, ground := Go.Ground.data }, { on := 18, ground := Go.Ground.chain }, { on := 18, ground := Go.Ground.guard }], guard := Option.some (18, Bool.true) }) rfl (fun K hK => ?_) AllReadyH.nil
        go_simp
        go_at_call 18
        refine (kI _ HT_40.out).mono ?_
        rintro e v7 ⟨rfl, b7⟩
        have HT_41 : Hid (Tab v7) := HT_40.out.below b7 HT_40.out.pos
        have HB_41 : Hid (Below w0.heap.size w0 v7) := HB_40.out.trans (b7.mono HB_40.out.size)
        have K3_41 : Hid (Blk v7 w1.heap.size [.int .i64 yh, .int .i64 yt, .string ya, .string yv, .string yn, .string yd] 25) := K3_40.out.below b7 K3_40.out.lt
        have HSZ_41 : Hid (SO v7 za zl) := SO.below HSZ_40.out b7
        have K13_41 : Hid (Blk v7 w14.heap.size [.int .i64 zh, .int .i64 zr, .string zi, .slice za zl.length zc] 33) := K13_40.out.below b7 K13_40.out.lt
        have HSU_41 : Hid (SO v7 ua ul) := SO.below HSU_40.out b7
        have K16_41 : Hid (Blk v7 w17.heap.size [.int .i64 uh, .int .i64 ur, .string ui, .slice ua ul.length uc] 33) := K16_40.out.below b7 K16_40.out.lt
        clear b7
        refine hK.out _ _ (⟨⟨K3_41.out.cell 0 rfl, K3_41.out.cell 1 rfl, K3_41.out.cell 2 rfl, K3_41.out.cell 3 rfl, K3_41.out.cell 4 rfl, K3_41.out.cell 5 rfl⟩, ⟨K13_41.out.cell 0 rfl, K13_41.out.cell 1 rfl, K13_41.out.cell 2 rfl, K13_41.out.cell 3 rfl⟩, ⟨K16_41.out.cell 0 rfl, K16_41.out.cell 1 rfl, K16_41.out.cell 2 rfl, K16_41.out.cell 3 rfl⟩⟩) (fun hHeld => ?_)
        clear hK K
        try simp only [Act.put, List.setIfInBounds_toArray, List.set_cons_zero, List.set_cons_succ]
        refine wpAnyH_take (i := 21) (oi := { dst := Option.some 127, op := Go.Op.call { callee := Go.Callee.builtin Go.Builtin.len, args := #[Go.Operand.tmp 126], argTypes := #[9] }, type := 3, pos := "laws.go:441", after := #[{ on := 20, ground := Go.Ground.data }, { on := 18, ground := Go.Ground.guard }], guard := Option.some (18, Bool.true) }) (v := ?_) rfl (by kernel_rfl) (by kernel_rfl) (by kernel_rfl) (fun _ _ _ h => h) (Or.inl ⟨by rfl, ?_⟩) hHeld ?_
        rotate_left
        · intro w hSw
          try dsimp only at hSw
          go_simp
          try (with_reducible rfl)
        simp only [Act.put, List.setIfInBounds_toArray, List.set_cons_zero, List.set_cons_succ]
        refine wpAnyH_ready (rs := [23]) (by kernel_rfl) (by decide) ?_
        refine AllReadyH.cons (o := { dst := Option.some 129, op := Go.Op.call { callee := Go.Callee.value (Go.Operand.func 19), args := #[Go.Operand.tmp 128], argTypes := #[25] }, type := 9, pos := "laws.go:441", after := #[{ on := 22, ground := Go.Ground.data }, { on := 20, ground := Go.Ground.chain }, { on := 18, ground := Go.Ground.guard }], guard := Option.some (18, Bool.true) }) rfl (fun K hK => ?_) AllReadyH.nil
        go_simp
        go_at_call 19
        refine (kJ _).mono ?_
        rintro e v8 ⟨rfl, b8⟩
        have HT_42 : Hid (Tab v8) := HT_41.out.below b8 HT_41.out.pos
        have HB_42 : Hid (Below w0.heap.size w0 v8) := HB_41.out.trans (b8.mono HB_41.out.size)
        have K3_42 : Hid (Blk v8 w1.heap.size [.int .i64 yh, .int .i64 yt, .string ya, .string yv, .string yn, .string yd] 25) := K3_41.out.below b8 K3_41.out.lt
        have HSZ_42 : Hid (SO v8 za zl) := SO.below HSZ_41.out b8
        have K13_42 : Hid (Blk v8 w14.heap.size [.int .i64 zh, .int .i64 zr, .string zi, .slice za zl.length zc] 33) := K13_41.out.below b8 K13_41.out.lt
        have HSU_42 : Hid (SO v8 ua ul) := SO.below HSU_41.out b8
        have K16_42 : Hid (Blk v8 w17.heap.size [.int .i64 uh, .int .i64 ur, .string ui, .slice ua ul.length uc] 33) := K16_41.out.below b8 K16_41.out.lt
        clear b8
        refine hK.out _ _ (⟨⟨K3_42.out.cell 0 rfl, K3_42.out.cell 1 rfl, K3_42.out.cell 2 rfl, K3_42.out.cell 3 rfl, K3_42.out.cell 4 rfl, K3_42.out.cell 5 rfl⟩, ⟨K13_42.out.cell 0 rfl, K13_42.out.cell 1 rfl, K13_42.out.cell 2 rfl, K13_42.out.cell 3 rfl⟩, ⟨K16_42.out.cell 0 rfl, K16_42.out.cell 1 rfl, K16_42.out.cell 2 rfl, K16_42.out.cell 3 rfl⟩⟩) (fun hHeld => ?_)
        clear hK K
        try simp only [Act.put, List.setIfInBounds_toArray, List.set_cons_zero, List.set_cons_succ]
        refine wpAnyH_take (i := 24) (oi := { dst := Option.some 130, op := Go.Op.call { callee := Go.Callee.builtin Go.Builtin.len, args := #[Go.Operand.tmp 129], argTypes := #[9] }, type := 3, pos := "laws.go:441", after := #[{ on := 23, ground := Go.Ground.data }, { on := 18, ground := Go.Ground.guard }], guard := Option.some (18, Bool.true) }) (v := ?_) rfl (by kernel_rfl) (by kernel_rfl) (by kernel_rfl) (fun _ _ _ h => h) (Or.inl ⟨by rfl, ?_⟩) hHeld ?_
        rotate_left
        · intro w hSw
          try dsimp only at hSw
          go_simp
          try (with_reducible rfl)
        simp only [Act.put, List.setIfInBounds_toArray, List.set_cons_zero, List.set_cons_succ]
        refine wpAnyH_take (i := 25) (oi := { dst := Option.some 131, op := Go.Op.binOp Go.BinOp.eql 3 (Go.Operand.tmp 127) (Go.Operand.tmp 130) 3, type := 4, pos := "laws.go:441", after := #[{ on := 21, ground := Go.Ground.data }, { on := 24, ground := Go.Ground.data }, { on := 18, ground := Go.Ground.guard }], guard := Option.some (18, Bool.true) }) (v := ?_) rfl (by kernel_rfl) (by kernel_rfl) (by kernel_rfl) (fun _ _ _ h => h) (Or.inl ⟨by rfl, ?_⟩) hHeld ?_
        rotate_left
        · intro w hSw
          try dsimp only at hSw
          go_simp
          try (with_reducible rfl)
        simp only [Act.put, List.setIfInBounds_toArray, List.set_cons_zero, List.set_cons_succ]
        refine wpAnyH_take (i := 26) (oi := { dst := Option.some 132, op := Go.Op.pick (Go.Operand.tmp 124) (Go.Operand.tmp 131) (Go.Operand.const (Go.Value.bool Bool.false)), type := 4, pos := "laws.go:441", after := #[{ on := 18, ground := Go.Ground.data }, { on := 25, ground := Go.Ground.data }], guard := Option.none }) (v := ?_) rfl (by kernel_rfl) (by kernel_rfl) (by kernel_rfl) (fun _ _ _ h => h) (Or.inl ⟨by rfl, ?_⟩) hHeld ?_
        rotate_left
        · intro w hSw
          try dsimp only at hSw
          go_simp
          try (with_reducible rfl)
        simp only [Act.put, List.setIfInBounds_toArray, List.set_cons_zero, List.set_cons_succ]
        refine wpAnyH_take (i := 27) (oi := { dst := Option.some 2, op := Go.Op.assign (Go.Operand.tmp 132), type := 4, pos := "laws.go:441", after := #[{ on := 26, ground := Go.Ground.data }, { on := 23, ground := Go.Ground.chain }, { on := 0, ground := Go.Ground.phase }, { on := 1, ground := Go.Ground.phase }, { on := 2, ground := Go.Ground.phase }, { on := 3, ground := Go.Ground.phase }, { on := 4, ground := Go.Ground.phase }, { on := 5, ground := Go.Ground.phase }, { on := 6, ground := Go.Ground.phase }, { on := 7, ground := Go.Ground.phase }, { on := 8, ground := Go.Ground.phase }, { on := 9, ground := Go.Ground.phase }, { on := 10, ground := Go.Ground.phase }, { on := 11, ground := Go.Ground.phase }, { on := 12, ground := Go.Ground.phase }, { on := 13, ground := Go.Ground.phase }, { on := 14, ground := Go.Ground.phase }, { on := 15, ground := Go.Ground.phase }, { on := 16, ground := Go.Ground.phase }, { on := 17, ground := Go.Ground.phase }, { on := 18, ground := Go.Ground.phase }, { on := 19, ground := Go.Ground.phase }, { on := 20, ground := Go.Ground.phase }, { on := 21, ground := Go.Ground.phase }, { on := 22, ground := Go.Ground.phase }, { on := 23, ground := Go.Ground.phase }, { on := 24, ground := Go.Ground.phase }, { on := 25, ground := Go.Ground.phase }, { on := 26, ground := Go.Ground.phase }], guard := Option.none }) (v := ?_) rfl (by kernel_rfl) (by kernel_rfl) (by kernel_rfl) (fun _ _ _ h => h) (Or.inl ⟨by rfl, ?_⟩) hHeld ?_
        rotate_left
        · intro w hSw
          try dsimp only at hSw
          go_simp
          try (with_reducible rfl)
        simp only [Act.put, List.setIfInBounds_toArray, List.set_cons_zero, List.set_cons_succ]
        refine wpAnyH_done (by kernel_rfl) ?_ _
        go_wp2
        go_ret
        exact ⟨rfl, HB_42.out⟩
      · have hfin := trivial
        have hz := hK.out rfl
        have kZ := fun W (h : SO W za zl) => impl_showC ⟨zh, zr, zi, zl⟩ za zc W h hz.2
        rw [hz.1] at kZ
        unfold cV at kZ
        simp only at kZ
        have hu := hU.out rfl
        have kU := fun W (h : SO W ua ul) => impl_showC ⟨uh, ur, ui, ul⟩ ua uc W h hu.2
        rw [hu.1] at kU
        unfold cV at kU
        simp only at kU
        clear hK hU
        go_wp2_with fail
        refine wp_region_held_drew (S := (fun W : World => (W.cell? ⟨w1.heap.size, 0, none⟩ = some (.int .i64 yh) ∧ W.cell? ⟨w1.heap.size, 1, none⟩ = some (.int .i64 yt) ∧ W.cell? ⟨w1.heap.size, 2, none⟩ = some (.string ya) ∧ W.cell? ⟨w1.heap.size, 3, none⟩ = some (.string yv) ∧ W.cell? ⟨w1.heap.size, 4, none⟩ = some (.string yn) ∧ W.cell? ⟨w1.heap.size, 5, none⟩ = some (.string yd)) ∧ (W.cell? ⟨w14.heap.size, 0, none⟩ = some (.int .i64 zh) ∧ W.cell? ⟨w14.heap.size, 1, none⟩ = some (.int .i64 zr) ∧ W.cell? ⟨w14.heap.size, 2, none⟩ = some (.string zi) ∧ W.cell? ⟨w14.heap.size, 3, none⟩ = some (.slice za zl.length zc)) ∧ (W.cell? ⟨w17.heap.size, 0, none⟩ = some (.int .i64 uh) ∧ W.cell? ⟨w17.heap.size, 1, none⟩ = some (.int .i64 ur) ∧ W.cell? ⟨w17.heap.size, 2, none⟩ = some (.string ui) ∧ W.cell? ⟨w17.heap.size, 3, none⟩ = some (.slice ua ul.length uc)))) (by kernel_rfl) ?_ (fun hHeld => ?_)
        · exact ⟨⟨K3_34.out.cell 0 rfl, K3_34.out.cell 1 rfl, K3_34.out.cell 2 rfl, K3_34.out.cell 3 rfl, K3_34.out.cell 4 rfl, K3_34.out.cell 5 rfl⟩, ⟨K13_34.out.cell 0 rfl, K13_34.out.cell 1 rfl, K13_34.out.cell 2 rfl, K13_34.out.cell 3 rfl⟩, ⟨K16_34.out.cell 0 rfl, K16_34.out.cell 1 rfl, K16_34.out.cell 2 rfl, K16_34.out.cell 3 rfl⟩⟩
        generalize w21.drew = wd at *
        refine wpAnyH_take (i := 0) (oi := { dst := Option.some 106, op := Go.Op.move (Go.Operand.tmp 14), type := 4, pos := "laws.go:441", after := #[], guard := Option.none }) (v := ?_) rfl (by kernel_rfl) (by kernel_rfl) (by kernel_rfl) (fun _ _ _ h => h) (Or.inl ⟨by rfl, ?_⟩) hHeld ?_
        rotate_left
        · intro w hSw
          try dsimp only at hSw
          go_simp
          try (with_reducible rfl)
        simp only [Act.put, List.setIfInBounds_toArray, List.set_cons_zero, List.set_cons_succ]
        refine wpAnyH_take (i := 1) (oi := { dst := Option.some 107, op := Go.Op.unOp Go.UnOp.not 4 (Go.Operand.tmp 106), type := 4, pos := "laws.go:441", after := #[{ on := 0, ground := Go.Ground.data }], guard := Option.none }) (v := ?_) rfl (by kernel_rfl) (by kernel_rfl) (by kernel_rfl) (fun _ _ _ h => h) (Or.inl ⟨by rfl, ?_⟩) hHeld ?_
        rotate_left
        · intro w hSw
          try dsimp only at hSw
          go_simp
          try (with_reducible rfl)
        simp only [Act.put, List.setIfInBounds_toArray, List.set_cons_zero, List.set_cons_succ]
        refine wpAnyH_take (i := 2) (oi := { dst := Option.some 108, op := Go.Op.move (Go.Operand.tmp 107), type := 4, pos := "laws.go:441", after := #[{ on := 1, ground := Go.Ground.data }], guard := Option.none }) (v := ?_) rfl (by kernel_rfl) (by kernel_rfl) (by kernel_rfl) (fun _ _ _ h => h) (Or.inl ⟨by rfl, ?_⟩) hHeld ?_
        rotate_left
        · intro w hSw
          try dsimp only at hSw
          go_simp
          try (with_reducible rfl)
        simp only [Act.put, List.setIfInBounds_toArray, List.set_cons_zero, List.set_cons_succ]
        refine wpAnyH_take (i := 3) (oi := { dst := Option.some 109, op := Go.Op.load 33 (Go.Operand.tmp 13), type := 33, pos := "laws.go:441", after := #[{ on := 2, ground := Go.Ground.guard }], guard := Option.some (2, Bool.false) }) (v := ?_) rfl (by kernel_rfl) (by kernel_rfl) (by kernel_rfl) (fun _ _ _ h => h) (Or.inl ⟨by rfl, ?_⟩) hHeld ?_
        rotate_left
        · intro w hSw
          try dsimp only at hSw
          go_simp
          try (with_reducible rfl)
        simp only [Act.put, List.setIfInBounds_toArray, List.set_cons_zero, List.set_cons_succ]
        refine wpAnyH_take (i := 5) (oi := { dst := Option.some 111, op := Go.Op.move (Go.Operand.tmp 12), type := 9, pos := "laws.go:441", after := #[{ on := 2, ground := Go.Ground.guard }], guard := Option.some (2, Bool.false) }) (v := ?_) rfl (by kernel_rfl) (by kernel_rfl) (by kernel_rfl) (fun _ _ _ h => h) (Or.inl ⟨by rfl, ?_⟩) hHeld ?_
        rotate_left
        · intro w hSw
          try dsimp only at hSw
          go_simp
          try (with_reducible rfl)
        simp only [Act.put, List.setIfInBounds_toArray, List.set_cons_zero, List.set_cons_succ]
        refine wpAnyH_ready (rs := [4]) (by kernel_rfl) (by decide) ?_
        refine AllReadyH.cons (o := { dst := Option.some 110, op := Go.Op.call { callee := Go.Callee.value (Go.Operand.func 12), args := #[Go.Operand.tmp 109], argTypes := #[33] }, type := 9, pos := "laws.go:441", after := #[{ on := 3, ground := Go.Ground.data }, { on := 2, ground := Go.Ground.chain }, { on := 2, ground := Go.Ground.guard }], guard := Option.some (2, Bool.false) }) rfl (fun K hK => ?_) AllReadyH.nil
        go_simp
        go_at_call 12
        refine (kZ _ HSZ_34.out).mono ?_
        rintro e v9 ⟨rfl, b9⟩
        have HT_43 : Hid (Tab v9) := HT_34.out.below b9 HT_34.out.pos
        have HB_43 : Hid (Below w0.heap.size w0 v9) := HB_34.out.trans (b9.mono HB_34.out.size)
        have K3_43 : Hid (Blk v9 w1.heap.size [.int .i64 yh, .int .i64 yt, .string ya, .string yv, .string yn, .string yd] 25) := K3_34.out.below b9 K3_34.out.lt
        have HSZ_43 : Hid (SO v9 za zl) := SO.below HSZ_34.out b9
        have K13_43 : Hid (Blk v9 w14.heap.size [.int .i64 zh, .int .i64 zr, .string zi, .slice za zl.length zc] 33) := K13_34.out.below b9 K13_34.out.lt
        have HSU_43 : Hid (SO v9 ua ul) := SO.below HSU_34.out b9
        have K16_43 : Hid (Blk v9 w17.heap.size [.int .i64 uh, .int .i64 ur, .string ui, .slice ua ul.length uc] 33) := K16_34.out.below b9 K16_34.out.lt
        clear b9
        refine hK.out _ _ (⟨⟨K3_43.out.cell 0 rfl, K3_43.out.cell 1 rfl, K3_43.out.cell 2 rfl, K3_43.out.cell 3 rfl, K3_43.out.cell 4 rfl, K3_43.out.cell 5 rfl⟩, ⟨K13_43.out.cell 0 rfl, K13_43.out.cell 1 rfl, K13_43.out.cell 2 rfl, K13_43.out.cell 3 rfl⟩, ⟨K16_43.out.cell 0 rfl, K16_43.out.cell 1 rfl, K16_43.out.cell 2 rfl, K16_43.out.cell 3 rfl⟩⟩) (fun hHeld => ?_)
        clear hK K
        try simp only [Act.put, List.setIfInBounds_toArray, List.set_cons_zero, List.set_cons_succ]
        refine wpAnyH_take (i := 6) (oi := { dst := Option.some 112, op := Go.Op.binOp Go.BinOp.eql 9 (Go.Operand.tmp 110) (Go.Operand.tmp 111) 9, type := 4, pos := "laws.go:441", after := #[{ on := 4, ground := Go.Ground.data }, { on := 5, ground := Go.Ground.data }, { on := 2, ground := Go.Ground.guard }], guard := Option.some (2, Bool.false) }) (v := ?_) rfl (by kernel_rfl) (by kernel_rfl) (by kernel_rfl) (fun _ _ _ h => h) (Or.inl ⟨by rfl, ?_⟩) hHeld ?_
        rotate_left
        · intro w hSw
          try dsimp only at hSw
          go_simp
          try (with_reducible rfl)
        simp only [Act.put, List.setIfInBounds_toArray, List.set_cons_zero, List.set_cons_succ]
        refine wpAnyH_take (i := 7) (oi := { dst := Option.some 113, op := Go.Op.pick (Go.Operand.tmp 108) (Go.Operand.const (Go.Value.bool Bool.true)) (Go.Operand.tmp 112), type := 4, pos := "laws.go:441", after := #[{ on := 2, ground := Go.Ground.data }, { on := 6, ground := Go.Ground.data }], guard := Option.none }) (v := ?_) rfl (by kernel_rfl) (by kernel_rfl) (by kernel_rfl) (fun _ _ _ h => h) (Or.inl ⟨by rfl, ?_⟩) hHeld ?_
        rotate_left
        · intro w hSw
          try dsimp only at hSw
          go_simp
          try (with_reducible rfl)
        simp only [Act.put, List.setIfInBounds_toArray, List.set_cons_zero, List.set_cons_succ]
        refine wpAnyH_take (i := 8) (oi := { dst := Option.some 114, op := Go.Op.move (Go.Operand.tmp 113), type := 4, pos := "laws.go:441", after := #[{ on := 7, ground := Go.Ground.data }, { on := 4, ground := Go.Ground.chain }], guard := Option.none }) (v := ?_) rfl (by kernel_rfl) (by kernel_rfl) (by kernel_rfl) (fun _ _ _ h => h) (Or.inl ⟨by rfl, ?_⟩) hHeld ?_
        rotate_left
        · intro w hSw
          try dsimp only at hSw
          go_simp
          try (with_reducible rfl)
        simp only [Act.put, List.setIfInBounds_toArray, List.set_cons_zero, List.set_cons_succ]
        refine wpAnyH_take (i := 9) (oi := { dst := Option.some 115, op := Go.Op.move (Go.Operand.tmp 17), type := 4, pos := "laws.go:441", after := #[{ on := 8, ground := Go.Ground.guard }], guard := Option.some (8, Bool.true) }) (v := ?_) rfl (by kernel_rfl) (by kernel_rfl) (by kernel_rfl) (fun _ _ _ h => h) (Or.inl ⟨by rfl, ?_⟩) hHeld ?_
        rotate_left
        · intro w hSw
          try dsimp only at hSw
          go_simp
          try (with_reducible rfl)
        simp only [Act.put, List.setIfInBounds_toArray, List.set_cons_zero, List.set_cons_succ]
        refine wpAnyH_take (i := 10) (oi := { dst := Option.some 116, op := Go.Op.unOp Go.UnOp.not 4 (Go.Operand.tmp 115), type := 4, pos := "laws.go:441", after := #[{ on := 9, ground := Go.Ground.data }, { on := 8, ground := Go.Ground.guard }], guard := Option.some (8, Bool.true) }) (v := ?_) rfl (by kernel_rfl) (by kernel_rfl) (by kernel_rfl) (fun _ _ _ h => h) (Or.inl ⟨by rfl, ?_⟩) hHeld ?_
        rotate_left
        · intro w hSw
          try dsimp only at hSw
          go_simp
          try (with_reducible rfl)
        simp only [Act.put, List.setIfInBounds_toArray, List.set_cons_zero, List.set_cons_succ]
        refine wpAnyH_take (i := 11) (oi := { dst := Option.some 117, op := Go.Op.move (Go.Operand.tmp 116), type := 4, pos := "laws.go:441", after := #[{ on := 10, ground := Go.Ground.data }, { on := 8, ground := Go.Ground.chain }, { on := 8, ground := Go.Ground.guard }], guard := Option.some (8, Bool.true) }) (v := ?_) rfl (by kernel_rfl) (by kernel_rfl) (by kernel_rfl) (fun _ _ _ h => h) (Or.inl ⟨by rfl, ?_⟩) hHeld ?_
        rotate_left
        · intro w hSw
          try dsimp only at hSw
          go_simp
          try (with_reducible rfl)
        simp only [Act.put, List.setIfInBounds_toArray, List.set_cons_zero, List.set_cons_succ]
        refine wpAnyH_take (i := 12) (oi := { dst := Option.some 118, op := Go.Op.load 33 (Go.Operand.tmp 16), type := 33, pos := "laws.go:441", after := #[{ on := 11, ground := Go.Ground.guard }], guard := Option.some (11, Bool.false) }) (v := ?_) rfl (by kernel_rfl) (by kernel_rfl) (by kernel_rfl) (fun _ _ _ h => h) (Or.inl ⟨by rfl, ?_⟩) hHeld ?_
        rotate_left
        · intro w hSw
          try dsimp only at hSw
          go_simp
          try (with_reducible rfl)
        simp only [Act.put, List.setIfInBounds_toArray, List.set_cons_zero, List.set_cons_succ]
        refine wpAnyH_take (i := 14) (oi := { dst := Option.some 120, op := Go.Op.move (Go.Operand.tmp 15), type := 9, pos := "laws.go:441", after := #[{ on := 11, ground := Go.Ground.guard }], guard := Option.some (11, Bool.false) }) (v := ?_) rfl (by kernel_rfl) (by kernel_rfl) (by kernel_rfl) (fun _ _ _ h => h) (Or.inl ⟨by rfl, ?_⟩) hHeld ?_
        rotate_left
        · intro w hSw
          try dsimp only at hSw
          go_simp
          try (with_reducible rfl)
        simp only [Act.put, List.setIfInBounds_toArray, List.set_cons_zero, List.set_cons_succ]
        refine wpAnyH_ready (rs := [13]) (by kernel_rfl) (by decide) ?_
        refine AllReadyH.cons (o := { dst := Option.some 119, op := Go.Op.call { callee := Go.Callee.value (Go.Operand.func 12), args := #[Go.Operand.tmp 118], argTypes := #[33] }, type := 9, pos := "laws.go:441", after := #[{ on := 12, ground := Go.Ground.data }, { on := 11, ground := Go.Ground.chain }, { on := 11, ground := Go.Ground.guard }], guard := Option.some (11, Bool.false) }) rfl (fun K hK => ?_) AllReadyH.nil
        go_simp
        go_at_call 12
        refine (kU _ HSU_43.out).mono ?_
        rintro e v10 ⟨rfl, b10⟩
        have HT_44 : Hid (Tab v10) := HT_43.out.below b10 HT_43.out.pos
        have HB_44 : Hid (Below w0.heap.size w0 v10) := HB_43.out.trans (b10.mono HB_43.out.size)
        have K3_44 : Hid (Blk v10 w1.heap.size [.int .i64 yh, .int .i64 yt, .string ya, .string yv, .string yn, .string yd] 25) := K3_43.out.below b10 K3_43.out.lt
        have HSZ_44 : Hid (SO v10 za zl) := SO.below HSZ_43.out b10
        have K13_44 : Hid (Blk v10 w14.heap.size [.int .i64 zh, .int .i64 zr, .string zi, .slice za zl.length zc] 33) := K13_43.out.below b10 K13_43.out.lt
        have HSU_44 : Hid (SO v10 ua ul) := SO.below HSU_43.out b10
        have K16_44 : Hid (Blk v10 w17.heap.size [.int .i64 uh, .int .i64 ur, .string ui, .slice ua ul.length uc] 33) := K16_43.out.below b10 K16_43.out.lt
        clear b10
        refine hK.out _ _ (⟨⟨K3_44.out.cell 0 rfl, K3_44.out.cell 1 rfl, K3_44.out.cell 2 rfl, K3_44.out.cell 3 rfl, K3_44.out.cell 4 rfl, K3_44.out.cell 5 rfl⟩, ⟨K13_44.out.cell 0 rfl, K13_44.out.cell 1 rfl, K13_44.out.cell 2 rfl, K13_44.out.cell 3 rfl⟩, ⟨K16_44.out.cell 0 rfl, K16_44.out.cell 1 rfl, K16_44.out.cell 2 rfl, K16_44.out.cell 3 rfl⟩⟩) (fun hHeld => ?_)
        clear hK K
        try simp only [Act.put, List.setIfInBounds_toArray, List.set_cons_zero, List.set_cons_succ]
        refine wpAnyH_take (i := 15) (oi := { dst := Option.some 121, op := Go.Op.binOp Go.BinOp.eql 9 (Go.Operand.tmp 119) (Go.Operand.tmp 120) 9, type := 4, pos := "laws.go:441", after := #[{ on := 13, ground := Go.Ground.data }, { on := 14, ground := Go.Ground.data }, { on := 11, ground := Go.Ground.guard }], guard := Option.some (11, Bool.false) }) (v := ?_) rfl (by kernel_rfl) (by kernel_rfl) (by kernel_rfl) (fun _ _ _ h => h) (Or.inl ⟨by rfl, ?_⟩) hHeld ?_
        rotate_left
        · intro w hSw
          try dsimp only at hSw
          go_simp
          try (with_reducible rfl)
        simp only [Act.put, List.setIfInBounds_toArray, List.set_cons_zero, List.set_cons_succ]
        refine wpAnyH_take (i := 16) (oi := { dst := Option.some 122, op := Go.Op.pick (Go.Operand.tmp 117) (Go.Operand.const (Go.Value.bool Bool.true)) (Go.Operand.tmp 121), type := 4, pos := "laws.go:441", after := #[{ on := 11, ground := Go.Ground.data }, { on := 15, ground := Go.Ground.data }, { on := 8, ground := Go.Ground.guard }], guard := Option.some (8, Bool.true) }) (v := ?_) rfl (by kernel_rfl) (by kernel_rfl) (by kernel_rfl) (fun _ _ _ h => h) (Or.inl ⟨by rfl, ?_⟩) hHeld ?_
        rotate_left
        · intro w hSw
          try dsimp only at hSw
          go_simp
          try (with_reducible rfl)
        simp only [Act.put, List.setIfInBounds_toArray, List.set_cons_zero, List.set_cons_succ]
        refine wpAnyH_take (i := 17) (oi := { dst := Option.some 123, op := Go.Op.pick (Go.Operand.tmp 114) (Go.Operand.tmp 122) (Go.Operand.const (Go.Value.bool Bool.false)), type := 4, pos := "laws.go:441", after := #[{ on := 8, ground := Go.Ground.data }, { on := 16, ground := Go.Ground.data }], guard := Option.none }) (v := ?_) rfl (by kernel_rfl) (by kernel_rfl) (by kernel_rfl) (fun _ _ _ h => h) (Or.inl ⟨by rfl, ?_⟩) hHeld ?_
        rotate_left
        · intro w hSw
          try dsimp only at hSw
          go_simp
          try (with_reducible rfl)
        simp only [Act.put, List.setIfInBounds_toArray, List.set_cons_zero, List.set_cons_succ]
        refine wpAnyH_take (i := 18) (oi := { dst := Option.some 124, op := Go.Op.move (Go.Operand.tmp 123), type := 4, pos := "laws.go:441", after := #[{ on := 17, ground := Go.Ground.data }, { on := 13, ground := Go.Ground.chain }], guard := Option.none }) (v := ?_) rfl (by kernel_rfl) (by kernel_rfl) (by kernel_rfl) (fun _ _ _ h => h) (Or.inl ⟨by rfl, ?_⟩) hHeld ?_
        rotate_left
        · intro w hSw
          try dsimp only at hSw
          go_simp
          try (with_reducible rfl)
        simp only [Act.put, List.setIfInBounds_toArray, List.set_cons_zero, List.set_cons_succ]
        refine wpAnyH_take (i := 19) (oi := { dst := Option.some 125, op := Go.Op.load 25 (Go.Operand.tmp 3), type := 25, pos := "laws.go:441", after := #[{ on := 18, ground := Go.Ground.guard }], guard := Option.some (18, Bool.true) }) (v := ?_) rfl (by kernel_rfl) (by kernel_rfl) (by kernel_rfl) (fun _ _ _ h => h) (Or.inl ⟨by rfl, ?_⟩) hHeld ?_
        rotate_left
        · intro w hSw
          try dsimp only at hSw
          go_simp
          try (with_reducible rfl)
        simp only [Act.put, List.setIfInBounds_toArray, List.set_cons_zero, List.set_cons_succ]
        refine wpAnyH_take (i := 22) (oi := { dst := Option.some 128, op := Go.Op.load 25 (Go.Operand.tmp 3), type := 25, pos := "laws.go:441", after := #[{ on := 18, ground := Go.Ground.guard }], guard := Option.some (18, Bool.true) }) (v := ?_) rfl (by kernel_rfl) (by kernel_rfl) (by kernel_rfl) (fun _ _ _ h => h) (Or.inl ⟨by rfl, ?_⟩) hHeld ?_
        rotate_left
        · intro w hSw
          try dsimp only at hSw
          go_simp
          try (with_reducible rfl)
        simp only [Act.put, List.setIfInBounds_toArray, List.set_cons_zero, List.set_cons_succ]
        refine wpAnyH_ready (rs := [20]) (by kernel_rfl) (by decide) ?_
        refine AllReadyH.cons (o := { dst := Option.some 126, op := Go.Op.call { callee := Go.Callee.value (Go.Operand.func 18), args := #[Go.Operand.tmp 125], argTypes := #[25] }, type := 9, pos := "laws.go:441", after := #[{ on := 19, ground := Go.Ground.data }, { on := 18, ground := Go.Ground.chain }, { on := 18, ground := Go.Ground.guard }], guard := Option.some (18, Bool.true) }) rfl (fun K hK => ?_) AllReadyH.nil
        go_simp
        go_at_call 18
        refine (kI _ HT_44.out).mono ?_
        rintro e v11 ⟨rfl, b11⟩
        have HT_45 : Hid (Tab v11) := HT_44.out.below b11 HT_44.out.pos
        have HB_45 : Hid (Below w0.heap.size w0 v11) := HB_44.out.trans (b11.mono HB_44.out.size)
        have K3_45 : Hid (Blk v11 w1.heap.size [.int .i64 yh, .int .i64 yt, .string ya, .string yv, .string yn, .string yd] 25) := K3_44.out.below b11 K3_44.out.lt
        have HSZ_45 : Hid (SO v11 za zl) := SO.below HSZ_44.out b11
        have K13_45 : Hid (Blk v11 w14.heap.size [.int .i64 zh, .int .i64 zr, .string zi, .slice za zl.length zc] 33) := K13_44.out.below b11 K13_44.out.lt
        have HSU_45 : Hid (SO v11 ua ul) := SO.below HSU_44.out b11
        have K16_45 : Hid (Blk v11 w17.heap.size [.int .i64 uh, .int .i64 ur, .string ui, .slice ua ul.length uc] 33) := K16_44.out.below b11 K16_44.out.lt
        clear b11
        refine hK.out _ _ (⟨⟨K3_45.out.cell 0 rfl, K3_45.out.cell 1 rfl, K3_45.out.cell 2 rfl, K3_45.out.cell 3 rfl, K3_45.out.cell 4 rfl, K3_45.out.cell 5 rfl⟩, ⟨K13_45.out.cell 0 rfl, K13_45.out.cell 1 rfl, K13_45.out.cell 2 rfl, K13_45.out.cell 3 rfl⟩, ⟨K16_45.out.cell 0 rfl, K16_45.out.cell 1 rfl, K16_45.out.cell 2 rfl, K16_45.out.cell 3 rfl⟩⟩) (fun hHeld => ?_)
        clear hK K
        try simp only [Act.put, List.setIfInBounds_toArray, List.set_cons_zero, List.set_cons_succ]
        refine wpAnyH_take (i := 21) (oi := { dst := Option.some 127, op := Go.Op.call { callee := Go.Callee.builtin Go.Builtin.len, args := #[Go.Operand.tmp 126], argTypes := #[9] }, type := 3, pos := "laws.go:441", after := #[{ on := 20, ground := Go.Ground.data }, { on := 18, ground := Go.Ground.guard }], guard := Option.some (18, Bool.true) }) (v := ?_) rfl (by kernel_rfl) (by kernel_rfl) (by kernel_rfl) (fun _ _ _ h => h) (Or.inl ⟨by rfl, ?_⟩) hHeld ?_
        rotate_left
        · intro w hSw
          try dsimp only at hSw
          go_simp
          try (with_reducible rfl)
        simp only [Act.put, List.setIfInBounds_toArray, List.set_cons_zero, List.set_cons_succ]
        refine wpAnyH_ready (rs := [23]) (by kernel_rfl) (by decide) ?_
        refine AllReadyH.cons (o := { dst := Option.some 129, op := Go.Op.call { callee := Go.Callee.value (Go.Operand.func 19), args := #[Go.Operand.tmp 128], argTypes := #[25] }, type := 9, pos := "laws.go:441", after := #[{ on := 22, ground := Go.Ground.data }, { on := 20, ground := Go.Ground.chain }, { on := 18, ground := Go.Ground.guard }], guard := Option.some (18, Bool.true) }) rfl (fun K hK => ?_) AllReadyH.nil
        go_simp
        go_at_call 19
        refine (kJ _).mono ?_
        rintro e v12 ⟨rfl, b12⟩
        have HT_46 : Hid (Tab v12) := HT_45.out.below b12 HT_45.out.pos
        have HB_46 : Hid (Below w0.heap.size w0 v12) := HB_45.out.trans (b12.mono HB_45.out.size)
        have K3_46 : Hid (Blk v12 w1.heap.size [.int .i64 yh, .int .i64 yt, .string ya, .string yv, .string yn, .string yd] 25) := K3_45.out.below b12 K3_45.out.lt
        have HSZ_46 : Hid (SO v12 za zl) := SO.below HSZ_45.out b12
        have K13_46 : Hid (Blk v12 w14.heap.size [.int .i64 zh, .int .i64 zr, .string zi, .slice za zl.length zc] 33) := K13_45.out.below b12 K13_45.out.lt
        have HSU_46 : Hid (SO v12 ua ul) := SO.below HSU_45.out b12
        have K16_46 : Hid (Blk v12 w17.heap.size [.int .i64 uh, .int .i64 ur, .string ui, .slice ua ul.length uc] 33) := K16_45.out.below b12 K16_45.out.lt
        clear b12
        refine hK.out _ _ (⟨⟨K3_46.out.cell 0 rfl, K3_46.out.cell 1 rfl, K3_46.out.cell 2 rfl, K3_46.out.cell 3 rfl, K3_46.out.cell 4 rfl, K3_46.out.cell 5 rfl⟩, ⟨K13_46.out.cell 0 rfl, K13_46.out.cell 1 rfl, K13_46.out.cell 2 rfl, K13_46.out.cell 3 rfl⟩, ⟨K16_46.out.cell 0 rfl, K16_46.out.cell 1 rfl, K16_46.out.cell 2 rfl, K16_46.out.cell 3 rfl⟩⟩) (fun hHeld => ?_)
        clear hK K
        try simp only [Act.put, List.setIfInBounds_toArray, List.set_cons_zero, List.set_cons_succ]
        refine wpAnyH_take (i := 24) (oi := { dst := Option.some 130, op := Go.Op.call { callee := Go.Callee.builtin Go.Builtin.len, args := #[Go.Operand.tmp 129], argTypes := #[9] }, type := 3, pos := "laws.go:441", after := #[{ on := 23, ground := Go.Ground.data }, { on := 18, ground := Go.Ground.guard }], guard := Option.some (18, Bool.true) }) (v := ?_) rfl (by kernel_rfl) (by kernel_rfl) (by kernel_rfl) (fun _ _ _ h => h) (Or.inl ⟨by rfl, ?_⟩) hHeld ?_
        rotate_left
        · intro w hSw
          try dsimp only at hSw
          go_simp
          try (with_reducible rfl)
        simp only [Act.put, List.setIfInBounds_toArray, List.set_cons_zero, List.set_cons_succ]
        refine wpAnyH_take (i := 25) (oi := { dst := Option.some 131, op := Go.Op.binOp Go.BinOp.eql 3 (Go.Operand.tmp 127) (Go.Operand.tmp 130) 3, type := 4, pos := "laws.go:441", after := #[{ on := 21, ground := Go.Ground.data }, { on := 24, ground := Go.Ground.data }, { on := 18, ground := Go.Ground.guard }], guard := Option.some (18, Bool.true) }) (v := ?_) rfl (by kernel_rfl) (by kernel_rfl) (by kernel_rfl) (fun _ _ _ h => h) (Or.inl ⟨by rfl, ?_⟩) hHeld ?_
        rotate_left
        · intro w hSw
          try dsimp only at hSw
          go_simp
          try (with_reducible rfl)
        simp only [Act.put, List.setIfInBounds_toArray, List.set_cons_zero, List.set_cons_succ]
        refine wpAnyH_take (i := 26) (oi := { dst := Option.some 132, op := Go.Op.pick (Go.Operand.tmp 124) (Go.Operand.tmp 131) (Go.Operand.const (Go.Value.bool Bool.false)), type := 4, pos := "laws.go:441", after := #[{ on := 18, ground := Go.Ground.data }, { on := 25, ground := Go.Ground.data }], guard := Option.none }) (v := ?_) rfl (by kernel_rfl) (by kernel_rfl) (by kernel_rfl) (fun _ _ _ h => h) (Or.inl ⟨by rfl, ?_⟩) hHeld ?_
        rotate_left
        · intro w hSw
          try dsimp only at hSw
          go_simp
          try (with_reducible rfl)
        simp only [Act.put, List.setIfInBounds_toArray, List.set_cons_zero, List.set_cons_succ]
        refine wpAnyH_take (i := 27) (oi := { dst := Option.some 2, op := Go.Op.assign (Go.Operand.tmp 132), type := 4, pos := "laws.go:441", after := #[{ on := 26, ground := Go.Ground.data }, { on := 23, ground := Go.Ground.chain }, { on := 0, ground := Go.Ground.phase }, { on := 1, ground := Go.Ground.phase }, { on := 2, ground := Go.Ground.phase }, { on := 3, ground := Go.Ground.phase }, { on := 4, ground := Go.Ground.phase }, { on := 5, ground := Go.Ground.phase }, { on := 6, ground := Go.Ground.phase }, { on := 7, ground := Go.Ground.phase }, { on := 8, ground := Go.Ground.phase }, { on := 9, ground := Go.Ground.phase }, { on := 10, ground := Go.Ground.phase }, { on := 11, ground := Go.Ground.phase }, { on := 12, ground := Go.Ground.phase }, { on := 13, ground := Go.Ground.phase }, { on := 14, ground := Go.Ground.phase }, { on := 15, ground := Go.Ground.phase }, { on := 16, ground := Go.Ground.phase }, { on := 17, ground := Go.Ground.phase }, { on := 18, ground := Go.Ground.phase }, { on := 19, ground := Go.Ground.phase }, { on := 20, ground := Go.Ground.phase }, { on := 21, ground := Go.Ground.phase }, { on := 22, ground := Go.Ground.phase }, { on := 23, ground := Go.Ground.phase }, { on := 24, ground := Go.Ground.phase }, { on := 25, ground := Go.Ground.phase }, { on := 26, ground := Go.Ground.phase }], guard := Option.none }) (v := ?_) rfl (by kernel_rfl) (by kernel_rfl) (by kernel_rfl) (fun _ _ _ h => h) (Or.inl ⟨by rfl, ?_⟩) hHeld ?_
        rotate_left
        · intro w hSw
          try dsimp only at hSw
          go_simp
          try (with_reducible rfl)
        simp only [Act.put, List.setIfInBounds_toArray, List.set_cons_zero, List.set_cons_succ]
        refine wpAnyH_done (by kernel_rfl) ?_ _
        go_wp2
        go_ret
        exact ⟨rfl, HB_46.out⟩
end Go.Proofs.YtbpmjejmeaifbaaDoor
