/- The walk of the law on signers: it answers true, old memory stays. Conditions: none of ours. -/
import Derived.Test.YtmjlpdmdpagggaaFs14a
import Derived.Test.YtmjlpdmdpagggaaDn14
import Derived.Test.YtmjlpdmdpagggaaAk14
import Derived.Test.YtmjlpdmdpagggaaWx14a
namespace Go.Proofs.Ytmjlpdmdpagggaa
open Go.RowKit
open Num
set_option linter.unusedVariables false
theorem OwnY.yo {W : World} {B n qc : Nat} {l : List Vt} {qa : Option Addr} (h : OwnY W B (.slice qa n qc) l) : YO W qa l := h.rdd2.1
set_option maxHeartbeats 25600000 in
set_option maxRecDepth 100000 in
theorem w_signer (a : Option Addr) (L : List UInt8) (cap : Nat) (w : World) (hl : CodeAt w w.heap.size a L) (hm : L.length ≤ 9223372036854775807) :
    Calls Try.prog 4 #[.slice a L.length cap] w fun e w' => e = .returned (.bool true) ∧ Below w.heap.size w w' := by
  have kBig := big_any a L.length cap w hm
  have HL : Hid (CodeAt w w.heap.size a L) := hl
  clear hl
  have HB0 : Hid (Below w.heap.size w w) := Below.refl _ _
  go_enter Try.func4, Try.ntmps4
  go_wp2_with fail
  refine kBig.mono ?_
  rintro e w1 ⟨rfl, hw1⟩
  rw [hw1]
  clear hw1 w1
  by_cases hbig : (1048576 : Int) < (L.length : Int)
  · have hd : decide ((1048576 : Int) < (L.length : Int)) = true := decide_eq_true hbig
    rw [hd]
    go_wp2
    go_ret
    exact ⟨rfl, HB0.out⟩
  have hd : decide ((1048576 : Int) < (L.length : Int)) = false := decide_eq_false hbig
  rw [hd]
  clear hd kBig
  have hlen : L.length ≤ 1048576 := by omega
  clear hbig hm
  go_wp2_with fail
  refine (draw_ask a L cap _ HL.out hlen).mono ?_
  rintro e w2 ⟨z, qa, qc, y, rfl, HQ, HZ, bb⟩
  have HFit : Hid ((qa = none → qc = 0) ∧ z.o.length ≤ qc ∧ qc ≤ 9223372036854775807) := OwnY.fit HQ.out
  have HQ1 : Hid (Rdd w2 w.heap.size w2.heap.size z.o qa) := OwnY.rdd2 HQ.out
  clear HQ
  have HB1 : Hid (Below w.heap.size w w2) := HB0.out.trans (bb.mono HB0.out.size)
  clear HB0
  clear bb
  obtain ⟨nS, hnS⟩ : ∃ n, w2.heap.size = n := ⟨_, rfl⟩
  have hwS : w.heap.size ≤ nS := by rw [← hnS]; exact HB1.out.size
  have HQ0 : Hid (Rdd w2 w.heap.size nS z.o qa) := by rw [← hnS]; exact HQ1.out
  clear HQ1
  have h22 : z.o.length ≤ 21 := HZ.out
  clear HZ
  have h60 : z.o.length < 60 := by omega
  have kI := fun W (h : YO W qa z.o) => impl_ask z y qa qc W h HFit.out.1 HFit.out.2 h60
  have kJ := fun W (h : YO W qa z.o) => spec_ask z y qa qc W h HFit.out.1 (by omega)
  have kS := fun W (h : YO W qa z.o) => spec_sok z qa qc W h (by omega)
  have kY := fun W (h : YO W qa z.o) => impl_sync z qa qc W h HFit.out.1 HFit.out.2
  have hal := askS_len z y
  have hsl := synS_len2 z
  have kX := fun (ia : Option Addr) (ic : Nat) W (h : YO W ia (askS z y).1.o) => spec_sok (askS z y).1 ia ic W h (by omega)
  have kZ := fun (ia : Option Addr) (ic : Nat) W (h : YO W ia (synS z).1.o) => spec_sok (synS z).1 ia ic W h (by omega)
  have hcase : sOk z = false ∧ (askS z y).1 = zSg ∧ (askS z y).2 = 2 ∨ (sOk z = true ∧ sOk (askS z y).1 = true ∧ (sOk (synS z).1 = true ∧ (synS z).2 = z.p) ∧ (askS z y).1.d = z.d) ∧ ((askS z y).2 = 0 ∧ (askS z y).1.p = true ∨ (askS z y).2 ≠ 0 ∧ (askS z y).1.m = z.m) := by
    cases hs : sOk z
    · exact .inl ⟨rfl, by rw [askS_no hs], by rw [askS_no hs]⟩
    · exact .inr ⟨⟨rfl, ask_right hs, syn_right hs, (ask_keeps hs).1⟩, (ask_keeps hs).2⟩
  generalize (askS z y).1 = x at *
  generalize (askS z y).2 = c at *
  generalize (synS z).1 = u at *
  generalize (synS z).2 = b at *
  rcases hcase with ⟨hs, hx, hc⟩ | ⟨⟨hs, hx, ⟨hu, hb⟩, hd⟩, hk⟩
  rotate_left
  rcases hk with ⟨hc, hp⟩ | ⟨hc, hm2⟩
  rotate_left 2
  · skip
    simp only [hs] at kS
    subst hx
    subst hc
    clear kX kZ kY hsl hal u b
    unfold zSg gz at *
    obtain ⟨zv, ⟨zdh, zdr, zds, zdi⟩, ⟨zmh, zmr, zms, zmi⟩, zp, zo⟩ := z
    obtain ⟨yh, yr, ys, yi, yv⟩ := y
    unfold sV sQ tV at *
    simp only at *
    clear hs
    obtain ⟨wa3, hwa3⟩ : ∃ W, w2.alloc (.cells #[.int .i64 0, .int .i64 0, .int .i64 0, .int .i64 0, .string ⟨#[]⟩, .int .i64 0, .int .i64 0, .int .i64 0, .string ⟨#[]⟩, .bool false, .slice none 0 0] 29) = W := ⟨_, rfl⟩
    have HAnS : Hid (Below w2.heap.size w2 wa3) := by rw [← hwa3]; exact below_one _ _
    have HQ2 : Hid (Rdd wa3 w.heap.size nS zo qa) := HQ0.out.below HAnS.out
    have HB2 : Hid (Below w.heap.size w wa3) := HB1.out.trans (HAnS.out.mono HB1.out.size)
    have HS2 : Hid (Blk wa3 nS [.int .i64 0, .int .i64 0, .int .i64 0, .int .i64 0, .string ⟨#[]⟩, .int .i64 0, .int .i64 0, .int .i64 0, .string ⟨#[]⟩, .bool false, .slice none 0 0] 29) := by rw [← hwa3, ← hnS]; exact blk_new _ _ _
    clear HAnS HB1 HQ0
    obtain ⟨nV, hnV⟩ : ∃ n, wa3.heap.size = n := ⟨_, rfl⟩
    have hnVS : nS < nV := by rw [← hnV]; exact HS2.out.lt
    obtain ⟨wa4, hwa4⟩ : ∃ W, wa3.alloc (.cells #[.int .i64 0, .int .i64 0, .int .i64 0, .string ⟨#[]⟩, .int .i64 0] 31) = W := ⟨_, rfl⟩
    have HAnV : Hid (Below wa3.heap.size wa3 wa4) := by rw [← hwa4]; exact below_one _ _
    have HS3 : Hid (Blk wa4 nS [.int .i64 0, .int .i64 0, .int .i64 0, .int .i64 0, .string ⟨#[]⟩, .int .i64 0, .int .i64 0, .int .i64 0, .string ⟨#[]⟩, .bool false, .slice none 0 0] 29) := HS2.out.below HAnV.out HS2.out.lt
    have HQ3 : Hid (Rdd wa4 w.heap.size nS zo qa) := HQ2.out.below HAnV.out
    have HB3 : Hid (Below w.heap.size w wa4) := HB2.out.trans (HAnV.out.mono HB2.out.size)
    have HV3 : Hid (Blk wa4 nV [.int .i64 0, .int .i64 0, .int .i64 0, .string ⟨#[]⟩, .int .i64 0] 31) := by rw [← hwa4, ← hnV]; exact blk_new _ _ _
    clear HAnV HS2 HB2 HQ2
    have cS_0_3 := HS3.out.cell 0 rfl
    have cS_1_3 := HS3.out.cell 1 rfl
    have cS_2_3 := HS3.out.cell 2 rfl
    have cS_3_3 := HS3.out.cell 3 rfl
    have cS_4_3 := HS3.out.cell 4 rfl
    have cS_5_3 := HS3.out.cell 5 rfl
    have cS_6_3 := HS3.out.cell 6 rfl
    have cS_7_3 := HS3.out.cell 7 rfl
    have cS_8_3 := HS3.out.cell 8 rfl
    have cS_9_3 := HS3.out.cell 9 rfl
    have cS_10_3 := HS3.out.cell 10 rfl
    have cV_0_3 := HV3.out.cell 0 rfl
    have cV_1_3 := HV3.out.cell 1 rfl
    have cV_2_3 := HV3.out.cell 2 rfl
    have cV_3_3 := HV3.out.cell 3 rfl
    have cV_4_3 := HV3.out.cell 4 rfl
    have zS_3 := fun j => HS3.out.frozen j
    have zV_3 := fun j => HV3.out.frozen j
    have KG4 : Hid (wa4.grownBy (((((((((((wa4.setCell ⟨nS, 0, none⟩ (.int .i64 zv)).setCell ⟨nS, 1, none⟩ (.int .i64 zdh)).setCell ⟨nS, 2, none⟩ (.int .i64 zdr)).setCell ⟨nS, 3, none⟩ (.int .i64 zds)).setCell ⟨nS, 4, none⟩ (.string zdi)).setCell ⟨nS, 5, none⟩ (.int .i64 zmh)).setCell ⟨nS, 6, none⟩ (.int .i64 zmr)).setCell ⟨nS, 7, none⟩ (.int .i64 zms)).setCell ⟨nS, 8, none⟩ (.string zmi)).setCell ⟨nS, 9, none⟩ (.bool zp)).setCell ⟨nS, 10, none⟩ (.slice qa zo.length qc)) (some nS)) := grown_set (grown_set (grown_set (grown_set (grown_set (grown_set (grown_set (grown_set (grown_set (grown_set (grown_set (grown_refl _ _) _) _) _) _) _) _) _) _) _) _) _
    have HS4 : Hid (Blk (((((((((((wa4.setCell ⟨nS, 0, none⟩ (.int .i64 zv)).setCell ⟨nS, 1, none⟩ (.int .i64 zdh)).setCell ⟨nS, 2, none⟩ (.int .i64 zdr)).setCell ⟨nS, 3, none⟩ (.int .i64 zds)).setCell ⟨nS, 4, none⟩ (.string zdi)).setCell ⟨nS, 5, none⟩ (.int .i64 zmh)).setCell ⟨nS, 6, none⟩ (.int .i64 zmr)).setCell ⟨nS, 7, none⟩ (.int .i64 zms)).setCell ⟨nS, 8, none⟩ (.string zmi)).setCell ⟨nS, 9, none⟩ (.bool zp)).setCell ⟨nS, 10, none⟩ (.slice qa zo.length qc)) nS [.int .i64 zv, .int .i64 zdh, .int .i64 zdr, .int .i64 zds, .string zdi, .int .i64 zmh, .int .i64 zmr, .int .i64 zms, .string zmi, .bool zp, .slice qa zo.length qc] 29) := (((((((((((HS3.out.set 0 (.int .i64 zv)).set 1 (.int .i64 zdh)).set 2 (.int .i64 zdr)).set 3 (.int .i64 zds)).set 4 (.string zdi)).set 5 (.int .i64 zmh)).set 6 (.int .i64 zmr)).set 7 (.int .i64 zms)).set 8 (.string zmi)).set 9 (.bool zp)).set 10 (.slice qa zo.length qc))
    have HV4 : Hid (Blk (((((((((((wa4.setCell ⟨nS, 0, none⟩ (.int .i64 zv)).setCell ⟨nS, 1, none⟩ (.int .i64 zdh)).setCell ⟨nS, 2, none⟩ (.int .i64 zdr)).setCell ⟨nS, 3, none⟩ (.int .i64 zds)).setCell ⟨nS, 4, none⟩ (.string zdi)).setCell ⟨nS, 5, none⟩ (.int .i64 zmh)).setCell ⟨nS, 6, none⟩ (.int .i64 zmr)).setCell ⟨nS, 7, none⟩ (.int .i64 zms)).setCell ⟨nS, 8, none⟩ (.string zmi)).setCell ⟨nS, 9, none⟩ (.bool zp)).setCell ⟨nS, 10, none⟩ (.slice qa zo.length qc)) nV [.int .i64 0, .int .i64 0, .int .i64 0, .string ⟨#[]⟩, .int .i64 0] 31) := HV3.out.grown KG4.out (fun e => by injection e with e; omega)
    have HQ4 : Hid (Rdd (((((((((((wa4.setCell ⟨nS, 0, none⟩ (.int .i64 zv)).setCell ⟨nS, 1, none⟩ (.int .i64 zdh)).setCell ⟨nS, 2, none⟩ (.int .i64 zdr)).setCell ⟨nS, 3, none⟩ (.int .i64 zds)).setCell ⟨nS, 4, none⟩ (.string zdi)).setCell ⟨nS, 5, none⟩ (.int .i64 zmh)).setCell ⟨nS, 6, none⟩ (.int .i64 zmr)).setCell ⟨nS, 7, none⟩ (.int .i64 zms)).setCell ⟨nS, 8, none⟩ (.string zmi)).setCell ⟨nS, 9, none⟩ (.bool zp)).setCell ⟨nS, 10, none⟩ (.slice qa zo.length qc)) w.heap.size nS zo qa) := HQ3.out.grown KG4.out (fun j e => by injection e with e; omega)
    have HB4 : Hid (Below w.heap.size w (((((((((((wa4.setCell ⟨nS, 0, none⟩ (.int .i64 zv)).setCell ⟨nS, 1, none⟩ (.int .i64 zdh)).setCell ⟨nS, 2, none⟩ (.int .i64 zdr)).setCell ⟨nS, 3, none⟩ (.int .i64 zds)).setCell ⟨nS, 4, none⟩ (.string zdi)).setCell ⟨nS, 5, none⟩ (.int .i64 zmh)).setCell ⟨nS, 6, none⟩ (.int .i64 zmr)).setCell ⟨nS, 7, none⟩ (.int .i64 zms)).setCell ⟨nS, 8, none⟩ (.string zmi)).setCell ⟨nS, 9, none⟩ (.bool zp)).setCell ⟨nS, 10, none⟩ (.slice qa zo.length qc))) := HB3.out.grown KG4.out HB3.out.size (fun j e => by injection e with e; omega)
    have cV_0_4 := HV4.out.cell 0 rfl
    have cV_1_4 := HV4.out.cell 1 rfl
    have cV_2_4 := HV4.out.cell 2 rfl
    have cV_3_4 := HV4.out.cell 3 rfl
    have cV_4_4 := HV4.out.cell 4 rfl
    have zV_4 := fun j => HV4.out.frozen j
    have KG5 : Hid ((((((((((((wa4.setCell ⟨nS, 0, none⟩ (.int .i64 zv)).setCell ⟨nS, 1, none⟩ (.int .i64 zdh)).setCell ⟨nS, 2, none⟩ (.int .i64 zdr)).setCell ⟨nS, 3, none⟩ (.int .i64 zds)).setCell ⟨nS, 4, none⟩ (.string zdi)).setCell ⟨nS, 5, none⟩ (.int .i64 zmh)).setCell ⟨nS, 6, none⟩ (.int .i64 zmr)).setCell ⟨nS, 7, none⟩ (.int .i64 zms)).setCell ⟨nS, 8, none⟩ (.string zmi)).setCell ⟨nS, 9, none⟩ (.bool zp)).setCell ⟨nS, 10, none⟩ (.slice qa zo.length qc)).grownBy ((((((((((((((((wa4.setCell ⟨nS, 0, none⟩ (.int .i64 zv)).setCell ⟨nS, 1, none⟩ (.int .i64 zdh)).setCell ⟨nS, 2, none⟩ (.int .i64 zdr)).setCell ⟨nS, 3, none⟩ (.int .i64 zds)).setCell ⟨nS, 4, none⟩ (.string zdi)).setCell ⟨nS, 5, none⟩ (.int .i64 zmh)).setCell ⟨nS, 6, none⟩ (.int .i64 zmr)).setCell ⟨nS, 7, none⟩ (.int .i64 zms)).setCell ⟨nS, 8, none⟩ (.string zmi)).setCell ⟨nS, 9, none⟩ (.bool zp)).setCell ⟨nS, 10, none⟩ (.slice qa zo.length qc)).setCell ⟨nV, 0, none⟩ (.int .i64 yh)).setCell ⟨nV, 1, none⟩ (.int .i64 yr)).setCell ⟨nV, 2, none⟩ (.int .i64 ys)).setCell ⟨nV, 3, none⟩ (.string yi)).setCell ⟨nV, 4, none⟩ (.int .i64 yv)) (some nV)) := grown_set (grown_set (grown_set (grown_set (grown_set (grown_refl _ _) _) _) _) _) _
    have HS5 : Hid (Blk ((((((((((((((((wa4.setCell ⟨nS, 0, none⟩ (.int .i64 zv)).setCell ⟨nS, 1, none⟩ (.int .i64 zdh)).setCell ⟨nS, 2, none⟩ (.int .i64 zdr)).setCell ⟨nS, 3, none⟩ (.int .i64 zds)).setCell ⟨nS, 4, none⟩ (.string zdi)).setCell ⟨nS, 5, none⟩ (.int .i64 zmh)).setCell ⟨nS, 6, none⟩ (.int .i64 zmr)).setCell ⟨nS, 7, none⟩ (.int .i64 zms)).setCell ⟨nS, 8, none⟩ (.string zmi)).setCell ⟨nS, 9, none⟩ (.bool zp)).setCell ⟨nS, 10, none⟩ (.slice qa zo.length qc)).setCell ⟨nV, 0, none⟩ (.int .i64 yh)).setCell ⟨nV, 1, none⟩ (.int .i64 yr)).setCell ⟨nV, 2, none⟩ (.int .i64 ys)).setCell ⟨nV, 3, none⟩ (.string yi)).setCell ⟨nV, 4, none⟩ (.int .i64 yv)) nS [.int .i64 zv, .int .i64 zdh, .int .i64 zdr, .int .i64 zds, .string zdi, .int .i64 zmh, .int .i64 zmr, .int .i64 zms, .string zmi, .bool zp, .slice qa zo.length qc] 29) := HS4.out.grown KG5.out (fun e => by injection e with e; omega)
    have HV5 : Hid (Blk ((((((((((((((((wa4.setCell ⟨nS, 0, none⟩ (.int .i64 zv)).setCell ⟨nS, 1, none⟩ (.int .i64 zdh)).setCell ⟨nS, 2, none⟩ (.int .i64 zdr)).setCell ⟨nS, 3, none⟩ (.int .i64 zds)).setCell ⟨nS, 4, none⟩ (.string zdi)).setCell ⟨nS, 5, none⟩ (.int .i64 zmh)).setCell ⟨nS, 6, none⟩ (.int .i64 zmr)).setCell ⟨nS, 7, none⟩ (.int .i64 zms)).setCell ⟨nS, 8, none⟩ (.string zmi)).setCell ⟨nS, 9, none⟩ (.bool zp)).setCell ⟨nS, 10, none⟩ (.slice qa zo.length qc)).setCell ⟨nV, 0, none⟩ (.int .i64 yh)).setCell ⟨nV, 1, none⟩ (.int .i64 yr)).setCell ⟨nV, 2, none⟩ (.int .i64 ys)).setCell ⟨nV, 3, none⟩ (.string yi)).setCell ⟨nV, 4, none⟩ (.int .i64 yv)) nV [.int .i64 yh, .int .i64 yr, .int .i64 ys, .string yi, .int .i64 yv] 31) := (((((HV4.out.set 0 (.int .i64 yh)).set 1 (.int .i64 yr)).set 2 (.int .i64 ys)).set 3 (.string yi)).set 4 (.int .i64 yv))
    have HQ5 : Hid (Rdd ((((((((((((((((wa4.setCell ⟨nS, 0, none⟩ (.int .i64 zv)).setCell ⟨nS, 1, none⟩ (.int .i64 zdh)).setCell ⟨nS, 2, none⟩ (.int .i64 zdr)).setCell ⟨nS, 3, none⟩ (.int .i64 zds)).setCell ⟨nS, 4, none⟩ (.string zdi)).setCell ⟨nS, 5, none⟩ (.int .i64 zmh)).setCell ⟨nS, 6, none⟩ (.int .i64 zmr)).setCell ⟨nS, 7, none⟩ (.int .i64 zms)).setCell ⟨nS, 8, none⟩ (.string zmi)).setCell ⟨nS, 9, none⟩ (.bool zp)).setCell ⟨nS, 10, none⟩ (.slice qa zo.length qc)).setCell ⟨nV, 0, none⟩ (.int .i64 yh)).setCell ⟨nV, 1, none⟩ (.int .i64 yr)).setCell ⟨nV, 2, none⟩ (.int .i64 ys)).setCell ⟨nV, 3, none⟩ (.string yi)).setCell ⟨nV, 4, none⟩ (.int .i64 yv)) w.heap.size nS zo qa) := HQ4.out.grown KG5.out (fun j e => by injection e with e; omega)
    have HB5 : Hid (Below w.heap.size w ((((((((((((((((wa4.setCell ⟨nS, 0, none⟩ (.int .i64 zv)).setCell ⟨nS, 1, none⟩ (.int .i64 zdh)).setCell ⟨nS, 2, none⟩ (.int .i64 zdr)).setCell ⟨nS, 3, none⟩ (.int .i64 zds)).setCell ⟨nS, 4, none⟩ (.string zdi)).setCell ⟨nS, 5, none⟩ (.int .i64 zmh)).setCell ⟨nS, 6, none⟩ (.int .i64 zmr)).setCell ⟨nS, 7, none⟩ (.int .i64 zms)).setCell ⟨nS, 8, none⟩ (.string zmi)).setCell ⟨nS, 9, none⟩ (.bool zp)).setCell ⟨nS, 10, none⟩ (.slice qa zo.length qc)).setCell ⟨nV, 0, none⟩ (.int .i64 yh)).setCell ⟨nV, 1, none⟩ (.int .i64 yr)).setCell ⟨nV, 2, none⟩ (.int .i64 ys)).setCell ⟨nV, 3, none⟩ (.string yi)).setCell ⟨nV, 4, none⟩ (.int .i64 yv))) := HB4.out.grown KG5.out HB4.out.size (fun j e => by injection e with e; omega)
    go_upto_region 4 with fail
    clear hwa3 hnS hwa4 hnV cS_0_3 cS_1_3 cS_2_3 cS_3_3 cS_4_3 cS_5_3 cS_6_3 cS_7_3 cS_8_3 cS_9_3 cS_10_3 cV_0_3 cV_1_3 cV_2_3 cV_3_3 cV_4_3 zS_3 zV_3 cV_0_4 cV_1_4 cV_2_4 cV_3_4 cV_4_4 zV_4
    clear HS3 HV3 HB3 HQ3 KG4 HS4 HV4 HB4 HQ4 KG5
    generalize ((((((((((((((((wa4.setCell ⟨nS, 0, none⟩ (.int .i64 zv)).setCell ⟨nS, 1, none⟩ (.int .i64 zdh)).setCell ⟨nS, 2, none⟩ (.int .i64 zdr)).setCell ⟨nS, 3, none⟩ (.int .i64 zds)).setCell ⟨nS, 4, none⟩ (.string zdi)).setCell ⟨nS, 5, none⟩ (.int .i64 zmh)).setCell ⟨nS, 6, none⟩ (.int .i64 zmr)).setCell ⟨nS, 7, none⟩ (.int .i64 zms)).setCell ⟨nS, 8, none⟩ (.string zmi)).setCell ⟨nS, 9, none⟩ (.bool zp)).setCell ⟨nS, 10, none⟩ (.slice qa zo.length qc)).setCell ⟨nV, 0, none⟩ (.int .i64 yh)).setCell ⟨nV, 1, none⟩ (.int .i64 yr)).setCell ⟨nV, 2, none⟩ (.int .i64 ys)).setCell ⟨nV, 3, none⟩ (.string yi)).setCell ⟨nV, 4, none⟩ (.int .i64 yv)) = w5 at *
    have cS_0_5 := HS5.out.cell 0 rfl
    have cS_1_5 := HS5.out.cell 1 rfl
    have cS_2_5 := HS5.out.cell 2 rfl
    have cS_3_5 := HS5.out.cell 3 rfl
    have cS_4_5 := HS5.out.cell 4 rfl
    have cS_5_5 := HS5.out.cell 5 rfl
    have cS_6_5 := HS5.out.cell 6 rfl
    have cS_7_5 := HS5.out.cell 7 rfl
    have cS_8_5 := HS5.out.cell 8 rfl
    have cS_9_5 := HS5.out.cell 9 rfl
    have cS_10_5 := HS5.out.cell 10 rfl
    have cV_0_5 := HV5.out.cell 0 rfl
    have cV_1_5 := HV5.out.cell 1 rfl
    have cV_2_5 := HV5.out.cell 2 rfl
    have cV_3_5 := HV5.out.cell 3 rfl
    have cV_4_5 := HV5.out.cell 4 rfl
    go_wp2_with fail
    clear cS_0_5 cS_1_5 cS_2_5 cS_3_5 cS_4_5 cS_5_5 cS_6_5 cS_7_5 cS_8_5 cS_9_5 cS_10_5 cV_0_5 cV_1_5 cV_2_5 cV_3_5 cV_4_5
    refine (kI _ HQ5.out.1).mono ?_
    rintro e w6 ⟨ia, ic, rfl, HQ, bb⟩
    have HX1 : Hid (Rdd w6 w.heap.size w6.heap.size [] ia) := OwnY.rdd2 (own_less HQ.out HB5.out.size)
    clear HQ
    have HS6 : Hid (Blk w6 nS [.int .i64 zv, .int .i64 zdh, .int .i64 zdr, .int .i64 zds, .string zdi, .int .i64 zmh, .int .i64 zmr, .int .i64 zms, .string zmi, .bool zp, .slice qa zo.length qc] 29) := HS5.out.below bb HS5.out.lt
    have HV6 : Hid (Blk w6 nV [.int .i64 yh, .int .i64 yr, .int .i64 ys, .string yi, .int .i64 yv] 31) := HV5.out.below bb HV5.out.lt
    have HQ6 : Hid (Rdd w6 w.heap.size nS zo qa) := HQ5.out.below bb
    have HB6 : Hid (Below w.heap.size w w6) := HB5.out.trans (bb.mono HB5.out.size)
    clear HS5 HV5 HB5 HQ5
    clear bb
    clear kI
    obtain ⟨nX, hnX⟩ : ∃ n, w6.heap.size = n := ⟨_, rfl⟩
    have hnXS : nS < nX := by rw [← hnX]; exact HS6.out.lt
    have hnXV : nV < nX := by rw [← hnX]; exact HV6.out.lt
    have HA0 : Hid (Rdd w6 w.heap.size nX [] ia) := by rw [← hnX]; exact HX1.out
    clear HX1
    obtain ⟨wa7, hwa7⟩ : ∃ W, w6.alloc (.cells #[.int .i64 0, .int .i64 0, .int .i64 0, .int .i64 0, .string ⟨#[]⟩, .int .i64 0, .int .i64 0, .int .i64 0, .string ⟨#[]⟩, .bool false, .slice ia 0 ic] 29) = W := ⟨_, rfl⟩
    have HAnX : Hid (Below w6.heap.size w6 wa7) := by rw [← hwa7]; exact below_one _ _
    have HS7 : Hid (Blk wa7 nS [.int .i64 zv, .int .i64 zdh, .int .i64 zdr, .int .i64 zds, .string zdi, .int .i64 zmh, .int .i64 zmr, .int .i64 zms, .string zmi, .bool zp, .slice qa zo.length qc] 29) := HS6.out.below HAnX.out HS6.out.lt
    have HV7 : Hid (Blk wa7 nV [.int .i64 yh, .int .i64 yr, .int .i64 ys, .string yi, .int .i64 yv] 31) := HV6.out.below HAnX.out HV6.out.lt
    have HQ7 : Hid (Rdd wa7 w.heap.size nS zo qa) := HQ6.out.below HAnX.out
    have HA7 : Hid (Rdd wa7 w.heap.size nX [] ia) := HA0.out.below HAnX.out
    have HB7 : Hid (Below w.heap.size w wa7) := HB6.out.trans (HAnX.out.mono HB6.out.size)
    have HX7 : Hid (Blk wa7 nX [.int .i64 0, .int .i64 0, .int .i64 0, .int .i64 0, .string ⟨#[]⟩, .int .i64 0, .int .i64 0, .int .i64 0, .string ⟨#[]⟩, .bool false, .slice ia 0 ic] 29) := by rw [← hwa7, ← hnX]; exact blk_new _ _ _
    clear HAnX HS6 HV6 HB6 HQ6 HA0
    have cS_0_7 := HS7.out.cell 0 rfl
    have cS_1_7 := HS7.out.cell 1 rfl
    have cS_2_7 := HS7.out.cell 2 rfl
    have cS_3_7 := HS7.out.cell 3 rfl
    have cS_4_7 := HS7.out.cell 4 rfl
    have cS_5_7 := HS7.out.cell 5 rfl
    have cS_6_7 := HS7.out.cell 6 rfl
    have cS_7_7 := HS7.out.cell 7 rfl
    have cS_8_7 := HS7.out.cell 8 rfl
    have cS_9_7 := HS7.out.cell 9 rfl
    have cS_10_7 := HS7.out.cell 10 rfl
    have cV_0_7 := HV7.out.cell 0 rfl
    have cV_1_7 := HV7.out.cell 1 rfl
    have cV_2_7 := HV7.out.cell 2 rfl
    have cV_3_7 := HV7.out.cell 3 rfl
    have cV_4_7 := HV7.out.cell 4 rfl
    go_wp2_with fail
    clear hwa7 hnX cS_0_7 cS_1_7 cS_2_7 cS_3_7 cS_4_7 cS_5_7 cS_6_7 cS_7_7 cS_8_7 cS_9_7 cS_10_7 cV_0_7 cV_1_7 cV_2_7 cV_3_7 cV_4_7
    refine (kJ _ HQ7.out.1).mono ?_
    rintro e w8 ⟨ja, jc, rfl, HQ, bb⟩
    clear HQ
    have HS8 : Hid (Blk w8 nS [.int .i64 zv, .int .i64 zdh, .int .i64 zdr, .int .i64 zds, .string zdi, .int .i64 zmh, .int .i64 zmr, .int .i64 zms, .string zmi, .bool zp, .slice qa zo.length qc] 29) := HS7.out.below bb HS7.out.lt
    have HV8 : Hid (Blk w8 nV [.int .i64 yh, .int .i64 yr, .int .i64 ys, .string yi, .int .i64 yv] 31) := HV7.out.below bb HV7.out.lt
    have HX8 : Hid (Blk w8 nX [.int .i64 0, .int .i64 0, .int .i64 0, .int .i64 0, .string ⟨#[]⟩, .int .i64 0, .int .i64 0, .int .i64 0, .string ⟨#[]⟩, .bool false, .slice ia 0 ic] 29) := HX7.out.below bb HX7.out.lt
    have HQ8 : Hid (Rdd w8 w.heap.size nS zo qa) := HQ7.out.below bb
    have HA8 : Hid (Rdd w8 w.heap.size nX [] ia) := HA7.out.below bb
    have HB8 : Hid (Below w.heap.size w w8) := HB7.out.trans (bb.mono HB7.out.size)
    clear HS7 HV7 HX7 HB7 HQ7 HA7
    clear bb
    clear kJ
    obtain ⟨nJ, hnJ⟩ : ∃ n, w8.heap.size = n := ⟨_, rfl⟩
    have hnJS : nS < nJ := by rw [← hnJ]; exact HS8.out.lt
    have hnJV : nV < nJ := by rw [← hnJ]; exact HV8.out.lt
    have hnJX : nX < nJ := by rw [← hnJ]; exact HX8.out.lt
    obtain ⟨wa9, hwa9⟩ : ∃ W, w8.alloc (.cells #[.int .i64 0, .int .i64 0, .int .i64 0, .int .i64 0, .string ⟨#[]⟩, .int .i64 0, .int .i64 0, .int .i64 0, .string ⟨#[]⟩, .bool false, .slice ja 0 jc] 29) = W := ⟨_, rfl⟩
    have HAnJ : Hid (Below w8.heap.size w8 wa9) := by rw [← hwa9]; exact below_one _ _
    have HS9 : Hid (Blk wa9 nS [.int .i64 zv, .int .i64 zdh, .int .i64 zdr, .int .i64 zds, .string zdi, .int .i64 zmh, .int .i64 zmr, .int .i64 zms, .string zmi, .bool zp, .slice qa zo.length qc] 29) := HS8.out.below HAnJ.out HS8.out.lt
    have HV9 : Hid (Blk wa9 nV [.int .i64 yh, .int .i64 yr, .int .i64 ys, .string yi, .int .i64 yv] 31) := HV8.out.below HAnJ.out HV8.out.lt
    have HX9 : Hid (Blk wa9 nX [.int .i64 0, .int .i64 0, .int .i64 0, .int .i64 0, .string ⟨#[]⟩, .int .i64 0, .int .i64 0, .int .i64 0, .string ⟨#[]⟩, .bool false, .slice ia 0 ic] 29) := HX8.out.below HAnJ.out HX8.out.lt
    have HQ9 : Hid (Rdd wa9 w.heap.size nS zo qa) := HQ8.out.below HAnJ.out
    have HA9 : Hid (Rdd wa9 w.heap.size nX [] ia) := HA8.out.below HAnJ.out
    have HB9 : Hid (Below w.heap.size w wa9) := HB8.out.trans (HAnJ.out.mono HB8.out.size)
    have HJ9 : Hid (Blk wa9 nJ [.int .i64 0, .int .i64 0, .int .i64 0, .int .i64 0, .string ⟨#[]⟩, .int .i64 0, .int .i64 0, .int .i64 0, .string ⟨#[]⟩, .bool false, .slice ja 0 jc] 29) := by rw [← hwa9, ← hnJ]; exact blk_new _ _ _
    clear HAnJ HS8 HV8 HX8 HB8 HQ8 HA8
    have cS_0_9 := HS9.out.cell 0 rfl
    have cS_1_9 := HS9.out.cell 1 rfl
    have cS_2_9 := HS9.out.cell 2 rfl
    have cS_3_9 := HS9.out.cell 3 rfl
    have cS_4_9 := HS9.out.cell 4 rfl
    have cS_5_9 := HS9.out.cell 5 rfl
    have cS_6_9 := HS9.out.cell 6 rfl
    have cS_7_9 := HS9.out.cell 7 rfl
    have cS_8_9 := HS9.out.cell 8 rfl
    have cS_9_9 := HS9.out.cell 9 rfl
    have cS_10_9 := HS9.out.cell 10 rfl
    go_wp2_with fail
    clear hwa9 hnJ cS_0_9 cS_1_9 cS_2_9 cS_3_9 cS_4_9 cS_5_9 cS_6_9 cS_7_9 cS_8_9 cS_9_9 cS_10_9
    refine (draw_may a L cap _ (code_below HL.out HB9.out) hlen).mono ?_
    rintro e w10 ⟨⟨gh, gr, gs, gi⟩, ⟨th, tr, ts, ti, tv⟩, rfl, bb⟩
    have HS10 : Hid (Blk w10 nS [.int .i64 zv, .int .i64 zdh, .int .i64 zdr, .int .i64 zds, .string zdi, .int .i64 zmh, .int .i64 zmr, .int .i64 zms, .string zmi, .bool zp, .slice qa zo.length qc] 29) := HS9.out.below bb HS9.out.lt
    have HV10 : Hid (Blk w10 nV [.int .i64 yh, .int .i64 yr, .int .i64 ys, .string yi, .int .i64 yv] 31) := HV9.out.below bb HV9.out.lt
    have HX10 : Hid (Blk w10 nX [.int .i64 0, .int .i64 0, .int .i64 0, .int .i64 0, .string ⟨#[]⟩, .int .i64 0, .int .i64 0, .int .i64 0, .string ⟨#[]⟩, .bool false, .slice ia 0 ic] 29) := HX9.out.below bb HX9.out.lt
    have HJ10 : Hid (Blk w10 nJ [.int .i64 0, .int .i64 0, .int .i64 0, .int .i64 0, .string ⟨#[]⟩, .int .i64 0, .int .i64 0, .int .i64 0, .string ⟨#[]⟩, .bool false, .slice ja 0 jc] 29) := HJ9.out.below bb HJ9.out.lt
    have HQ10 : Hid (Rdd w10 w.heap.size nS zo qa) := HQ9.out.below bb
    have HA10 : Hid (Rdd w10 w.heap.size nX [] ia) := HA9.out.below bb
    have HB10 : Hid (Below w.heap.size w w10) := HB9.out.trans (bb.mono HB9.out.size)
    clear HS9 HV9 HX9 HJ9 HB9 HQ9 HA9
    clear bb
    have kP := fun W => impl_may ⟨gh, gr, gs, gi⟩ ⟨th, tr, ts, ti, tv⟩ W
    have kR := fun W => spec_may ⟨gh, gr, gs, gi⟩ ⟨th, tr, ts, ti, tv⟩ W
    generalize mayS ⟨gh, gr, gs, gi⟩ ⟨th, tr, ts, ti, tv⟩ = t at *
    unfold gV tV at *
    simp only at *
    have htt : (t != t) = false := by simp
    obtain ⟨nG, hnG⟩ : ∃ n, w10.heap.size = n := ⟨_, rfl⟩
    have hnGS : nS < nG := by rw [← hnG]; exact HS10.out.lt
    have hnGV : nV < nG := by rw [← hnG]; exact HV10.out.lt
    have hnGX : nX < nG := by rw [← hnG]; exact HX10.out.lt
    have hnGJ : nJ < nG := by rw [← hnG]; exact HJ10.out.lt
    obtain ⟨wa11, hwa11⟩ : ∃ W, w10.alloc (.cells #[.int .i64 0, .int .i64 0, .int .i64 0, .string ⟨#[]⟩] 26) = W := ⟨_, rfl⟩
    have HAnG : Hid (Below w10.heap.size w10 wa11) := by rw [← hwa11]; exact below_one _ _
    have HS11 : Hid (Blk wa11 nS [.int .i64 zv, .int .i64 zdh, .int .i64 zdr, .int .i64 zds, .string zdi, .int .i64 zmh, .int .i64 zmr, .int .i64 zms, .string zmi, .bool zp, .slice qa zo.length qc] 29) := HS10.out.below HAnG.out HS10.out.lt
    have HV11 : Hid (Blk wa11 nV [.int .i64 yh, .int .i64 yr, .int .i64 ys, .string yi, .int .i64 yv] 31) := HV10.out.below HAnG.out HV10.out.lt
    have HX11 : Hid (Blk wa11 nX [.int .i64 0, .int .i64 0, .int .i64 0, .int .i64 0, .string ⟨#[]⟩, .int .i64 0, .int .i64 0, .int .i64 0, .string ⟨#[]⟩, .bool false, .slice ia 0 ic] 29) := HX10.out.below HAnG.out HX10.out.lt
    have HJ11 : Hid (Blk wa11 nJ [.int .i64 0, .int .i64 0, .int .i64 0, .int .i64 0, .string ⟨#[]⟩, .int .i64 0, .int .i64 0, .int .i64 0, .string ⟨#[]⟩, .bool false, .slice ja 0 jc] 29) := HJ10.out.below HAnG.out HJ10.out.lt
    have HQ11 : Hid (Rdd wa11 w.heap.size nS zo qa) := HQ10.out.below HAnG.out
    have HA11 : Hid (Rdd wa11 w.heap.size nX [] ia) := HA10.out.below HAnG.out
    have HB11 : Hid (Below w.heap.size w wa11) := HB10.out.trans (HAnG.out.mono HB10.out.size)
    have HG11 : Hid (Blk wa11 nG [.int .i64 0, .int .i64 0, .int .i64 0, .string ⟨#[]⟩] 26) := by rw [← hwa11, ← hnG]; exact blk_new _ _ _
    clear HAnG HS10 HV10 HX10 HJ10 HB10 HQ10 HA10
    obtain ⟨nT, hnT⟩ : ∃ n, wa11.heap.size = n := ⟨_, rfl⟩
    have hnTS : nS < nT := by rw [← hnT]; exact HS11.out.lt
    have hnTV : nV < nT := by rw [← hnT]; exact HV11.out.lt
    have hnTX : nX < nT := by rw [← hnT]; exact HX11.out.lt
    have hnTJ : nJ < nT := by rw [← hnT]; exact HJ11.out.lt
    have hnTG : nG < nT := by rw [← hnT]; exact HG11.out.lt
    obtain ⟨wa12, hwa12⟩ : ∃ W, wa11.alloc (.cells #[.int .i64 0, .int .i64 0, .int .i64 0, .string ⟨#[]⟩, .int .i64 0] 31) = W := ⟨_, rfl⟩
    have HAnT : Hid (Below wa11.heap.size wa11 wa12) := by rw [← hwa12]; exact below_one _ _
    have HS12 : Hid (Blk wa12 nS [.int .i64 zv, .int .i64 zdh, .int .i64 zdr, .int .i64 zds, .string zdi, .int .i64 zmh, .int .i64 zmr, .int .i64 zms, .string zmi, .bool zp, .slice qa zo.length qc] 29) := HS11.out.below HAnT.out HS11.out.lt
    have HV12 : Hid (Blk wa12 nV [.int .i64 yh, .int .i64 yr, .int .i64 ys, .string yi, .int .i64 yv] 31) := HV11.out.below HAnT.out HV11.out.lt
    have HX12 : Hid (Blk wa12 nX [.int .i64 0, .int .i64 0, .int .i64 0, .int .i64 0, .string ⟨#[]⟩, .int .i64 0, .int .i64 0, .int .i64 0, .string ⟨#[]⟩, .bool false, .slice ia 0 ic] 29) := HX11.out.below HAnT.out HX11.out.lt
    have HJ12 : Hid (Blk wa12 nJ [.int .i64 0, .int .i64 0, .int .i64 0, .int .i64 0, .string ⟨#[]⟩, .int .i64 0, .int .i64 0, .int .i64 0, .string ⟨#[]⟩, .bool false, .slice ja 0 jc] 29) := HJ11.out.below HAnT.out HJ11.out.lt
    have HG12 : Hid (Blk wa12 nG [.int .i64 0, .int .i64 0, .int .i64 0, .string ⟨#[]⟩] 26) := HG11.out.below HAnT.out HG11.out.lt
    have HQ12 : Hid (Rdd wa12 w.heap.size nS zo qa) := HQ11.out.below HAnT.out
    have HA12 : Hid (Rdd wa12 w.heap.size nX [] ia) := HA11.out.below HAnT.out
    have HB12 : Hid (Below w.heap.size w wa12) := HB11.out.trans (HAnT.out.mono HB11.out.size)
    have HT12 : Hid (Blk wa12 nT [.int .i64 0, .int .i64 0, .int .i64 0, .string ⟨#[]⟩, .int .i64 0] 31) := by rw [← hwa12, ← hnT]; exact blk_new _ _ _
    clear HAnT HS11 HV11 HX11 HJ11 HG11 HB11 HQ11 HA11
    have cG_0_12 := HG12.out.cell 0 rfl
    have cG_1_12 := HG12.out.cell 1 rfl
    have cG_2_12 := HG12.out.cell 2 rfl
    have cG_3_12 := HG12.out.cell 3 rfl
    have cT_0_12 := HT12.out.cell 0 rfl
    have cT_1_12 := HT12.out.cell 1 rfl
    have cT_2_12 := HT12.out.cell 2 rfl
    have cT_3_12 := HT12.out.cell 3 rfl
    have cT_4_12 := HT12.out.cell 4 rfl
    have zG_12 := fun j => HG12.out.frozen j
    have zT_12 := fun j => HT12.out.frozen j
    have KG13 : Hid (wa12.grownBy ((((wa12.setCell ⟨nG, 0, none⟩ (.int .i64 gh)).setCell ⟨nG, 1, none⟩ (.int .i64 gr)).setCell ⟨nG, 2, none⟩ (.int .i64 gs)).setCell ⟨nG, 3, none⟩ (.string gi)) (some nG)) := grown_set (grown_set (grown_set (grown_set (grown_refl _ _) _) _) _) _
    have HS13 : Hid (Blk ((((wa12.setCell ⟨nG, 0, none⟩ (.int .i64 gh)).setCell ⟨nG, 1, none⟩ (.int .i64 gr)).setCell ⟨nG, 2, none⟩ (.int .i64 gs)).setCell ⟨nG, 3, none⟩ (.string gi)) nS [.int .i64 zv, .int .i64 zdh, .int .i64 zdr, .int .i64 zds, .string zdi, .int .i64 zmh, .int .i64 zmr, .int .i64 zms, .string zmi, .bool zp, .slice qa zo.length qc] 29) := HS12.out.grown KG13.out (fun e => by injection e with e; omega)
    have HV13 : Hid (Blk ((((wa12.setCell ⟨nG, 0, none⟩ (.int .i64 gh)).setCell ⟨nG, 1, none⟩ (.int .i64 gr)).setCell ⟨nG, 2, none⟩ (.int .i64 gs)).setCell ⟨nG, 3, none⟩ (.string gi)) nV [.int .i64 yh, .int .i64 yr, .int .i64 ys, .string yi, .int .i64 yv] 31) := HV12.out.grown KG13.out (fun e => by injection e with e; omega)
    have HX13 : Hid (Blk ((((wa12.setCell ⟨nG, 0, none⟩ (.int .i64 gh)).setCell ⟨nG, 1, none⟩ (.int .i64 gr)).setCell ⟨nG, 2, none⟩ (.int .i64 gs)).setCell ⟨nG, 3, none⟩ (.string gi)) nX [.int .i64 0, .int .i64 0, .int .i64 0, .int .i64 0, .string ⟨#[]⟩, .int .i64 0, .int .i64 0, .int .i64 0, .string ⟨#[]⟩, .bool false, .slice ia 0 ic] 29) := HX12.out.grown KG13.out (fun e => by injection e with e; omega)
    have HJ13 : Hid (Blk ((((wa12.setCell ⟨nG, 0, none⟩ (.int .i64 gh)).setCell ⟨nG, 1, none⟩ (.int .i64 gr)).setCell ⟨nG, 2, none⟩ (.int .i64 gs)).setCell ⟨nG, 3, none⟩ (.string gi)) nJ [.int .i64 0, .int .i64 0, .int .i64 0, .int .i64 0, .string ⟨#[]⟩, .int .i64 0, .int .i64 0, .int .i64 0, .string ⟨#[]⟩, .bool false, .slice ja 0 jc] 29) := HJ12.out.grown KG13.out (fun e => by injection e with e; omega)
    have HG13 : Hid (Blk ((((wa12.setCell ⟨nG, 0, none⟩ (.int .i64 gh)).setCell ⟨nG, 1, none⟩ (.int .i64 gr)).setCell ⟨nG, 2, none⟩ (.int .i64 gs)).setCell ⟨nG, 3, none⟩ (.string gi)) nG [.int .i64 gh, .int .i64 gr, .int .i64 gs, .string gi] 26) := ((((HG12.out.set 0 (.int .i64 gh)).set 1 (.int .i64 gr)).set 2 (.int .i64 gs)).set 3 (.string gi))
    have HT13 : Hid (Blk ((((wa12.setCell ⟨nG, 0, none⟩ (.int .i64 gh)).setCell ⟨nG, 1, none⟩ (.int .i64 gr)).setCell ⟨nG, 2, none⟩ (.int .i64 gs)).setCell ⟨nG, 3, none⟩ (.string gi)) nT [.int .i64 0, .int .i64 0, .int .i64 0, .string ⟨#[]⟩, .int .i64 0] 31) := HT12.out.grown KG13.out (fun e => by injection e with e; omega)
    have HQ13 : Hid (Rdd ((((wa12.setCell ⟨nG, 0, none⟩ (.int .i64 gh)).setCell ⟨nG, 1, none⟩ (.int .i64 gr)).setCell ⟨nG, 2, none⟩ (.int .i64 gs)).setCell ⟨nG, 3, none⟩ (.string gi)) w.heap.size nS zo qa) := HQ12.out.grown KG13.out (fun j e => by injection e with e; omega)
    have HA13 : Hid (Rdd ((((wa12.setCell ⟨nG, 0, none⟩ (.int .i64 gh)).setCell ⟨nG, 1, none⟩ (.int .i64 gr)).setCell ⟨nG, 2, none⟩ (.int .i64 gs)).setCell ⟨nG, 3, none⟩ (.string gi)) w.heap.size nX [] ia) := HA12.out.grown KG13.out (fun j e => by injection e with e; omega)
    have HB13 : Hid (Below w.heap.size w ((((wa12.setCell ⟨nG, 0, none⟩ (.int .i64 gh)).setCell ⟨nG, 1, none⟩ (.int .i64 gr)).setCell ⟨nG, 2, none⟩ (.int .i64 gs)).setCell ⟨nG, 3, none⟩ (.string gi))) := HB12.out.grown KG13.out HB12.out.size (fun j e => by injection e with e; omega)
    have cT_0_13 := HT13.out.cell 0 rfl
    have cT_1_13 := HT13.out.cell 1 rfl
    have cT_2_13 := HT13.out.cell 2 rfl
    have cT_3_13 := HT13.out.cell 3 rfl
    have cT_4_13 := HT13.out.cell 4 rfl
    have zT_13 := fun j => HT13.out.frozen j
    have KG14 : Hid (((((wa12.setCell ⟨nG, 0, none⟩ (.int .i64 gh)).setCell ⟨nG, 1, none⟩ (.int .i64 gr)).setCell ⟨nG, 2, none⟩ (.int .i64 gs)).setCell ⟨nG, 3, none⟩ (.string gi)).grownBy (((((((((wa12.setCell ⟨nG, 0, none⟩ (.int .i64 gh)).setCell ⟨nG, 1, none⟩ (.int .i64 gr)).setCell ⟨nG, 2, none⟩ (.int .i64 gs)).setCell ⟨nG, 3, none⟩ (.string gi)).setCell ⟨nT, 0, none⟩ (.int .i64 th)).setCell ⟨nT, 1, none⟩ (.int .i64 tr)).setCell ⟨nT, 2, none⟩ (.int .i64 ts)).setCell ⟨nT, 3, none⟩ (.string ti)).setCell ⟨nT, 4, none⟩ (.int .i64 tv)) (some nT)) := grown_set (grown_set (grown_set (grown_set (grown_set (grown_refl _ _) _) _) _) _) _
    have HS14 : Hid (Blk (((((((((wa12.setCell ⟨nG, 0, none⟩ (.int .i64 gh)).setCell ⟨nG, 1, none⟩ (.int .i64 gr)).setCell ⟨nG, 2, none⟩ (.int .i64 gs)).setCell ⟨nG, 3, none⟩ (.string gi)).setCell ⟨nT, 0, none⟩ (.int .i64 th)).setCell ⟨nT, 1, none⟩ (.int .i64 tr)).setCell ⟨nT, 2, none⟩ (.int .i64 ts)).setCell ⟨nT, 3, none⟩ (.string ti)).setCell ⟨nT, 4, none⟩ (.int .i64 tv)) nS [.int .i64 zv, .int .i64 zdh, .int .i64 zdr, .int .i64 zds, .string zdi, .int .i64 zmh, .int .i64 zmr, .int .i64 zms, .string zmi, .bool zp, .slice qa zo.length qc] 29) := HS13.out.grown KG14.out (fun e => by injection e with e; omega)
    have HV14 : Hid (Blk (((((((((wa12.setCell ⟨nG, 0, none⟩ (.int .i64 gh)).setCell ⟨nG, 1, none⟩ (.int .i64 gr)).setCell ⟨nG, 2, none⟩ (.int .i64 gs)).setCell ⟨nG, 3, none⟩ (.string gi)).setCell ⟨nT, 0, none⟩ (.int .i64 th)).setCell ⟨nT, 1, none⟩ (.int .i64 tr)).setCell ⟨nT, 2, none⟩ (.int .i64 ts)).setCell ⟨nT, 3, none⟩ (.string ti)).setCell ⟨nT, 4, none⟩ (.int .i64 tv)) nV [.int .i64 yh, .int .i64 yr, .int .i64 ys, .string yi, .int .i64 yv] 31) := HV13.out.grown KG14.out (fun e => by injection e with e; omega)
    have HX14 : Hid (Blk (((((((((wa12.setCell ⟨nG, 0, none⟩ (.int .i64 gh)).setCell ⟨nG, 1, none⟩ (.int .i64 gr)).setCell ⟨nG, 2, none⟩ (.int .i64 gs)).setCell ⟨nG, 3, none⟩ (.string gi)).setCell ⟨nT, 0, none⟩ (.int .i64 th)).setCell ⟨nT, 1, none⟩ (.int .i64 tr)).setCell ⟨nT, 2, none⟩ (.int .i64 ts)).setCell ⟨nT, 3, none⟩ (.string ti)).setCell ⟨nT, 4, none⟩ (.int .i64 tv)) nX [.int .i64 0, .int .i64 0, .int .i64 0, .int .i64 0, .string ⟨#[]⟩, .int .i64 0, .int .i64 0, .int .i64 0, .string ⟨#[]⟩, .bool false, .slice ia 0 ic] 29) := HX13.out.grown KG14.out (fun e => by injection e with e; omega)
    have HJ14 : Hid (Blk (((((((((wa12.setCell ⟨nG, 0, none⟩ (.int .i64 gh)).setCell ⟨nG, 1, none⟩ (.int .i64 gr)).setCell ⟨nG, 2, none⟩ (.int .i64 gs)).setCell ⟨nG, 3, none⟩ (.string gi)).setCell ⟨nT, 0, none⟩ (.int .i64 th)).setCell ⟨nT, 1, none⟩ (.int .i64 tr)).setCell ⟨nT, 2, none⟩ (.int .i64 ts)).setCell ⟨nT, 3, none⟩ (.string ti)).setCell ⟨nT, 4, none⟩ (.int .i64 tv)) nJ [.int .i64 0, .int .i64 0, .int .i64 0, .int .i64 0, .string ⟨#[]⟩, .int .i64 0, .int .i64 0, .int .i64 0, .string ⟨#[]⟩, .bool false, .slice ja 0 jc] 29) := HJ13.out.grown KG14.out (fun e => by injection e with e; omega)
    have HG14 : Hid (Blk (((((((((wa12.setCell ⟨nG, 0, none⟩ (.int .i64 gh)).setCell ⟨nG, 1, none⟩ (.int .i64 gr)).setCell ⟨nG, 2, none⟩ (.int .i64 gs)).setCell ⟨nG, 3, none⟩ (.string gi)).setCell ⟨nT, 0, none⟩ (.int .i64 th)).setCell ⟨nT, 1, none⟩ (.int .i64 tr)).setCell ⟨nT, 2, none⟩ (.int .i64 ts)).setCell ⟨nT, 3, none⟩ (.string ti)).setCell ⟨nT, 4, none⟩ (.int .i64 tv)) nG [.int .i64 gh, .int .i64 gr, .int .i64 gs, .string gi] 26) := HG13.out.grown KG14.out (fun e => by injection e with e; omega)
    have HT14 : Hid (Blk (((((((((wa12.setCell ⟨nG, 0, none⟩ (.int .i64 gh)).setCell ⟨nG, 1, none⟩ (.int .i64 gr)).setCell ⟨nG, 2, none⟩ (.int .i64 gs)).setCell ⟨nG, 3, none⟩ (.string gi)).setCell ⟨nT, 0, none⟩ (.int .i64 th)).setCell ⟨nT, 1, none⟩ (.int .i64 tr)).setCell ⟨nT, 2, none⟩ (.int .i64 ts)).setCell ⟨nT, 3, none⟩ (.string ti)).setCell ⟨nT, 4, none⟩ (.int .i64 tv)) nT [.int .i64 th, .int .i64 tr, .int .i64 ts, .string ti, .int .i64 tv] 31) := (((((HT13.out.set 0 (.int .i64 th)).set 1 (.int .i64 tr)).set 2 (.int .i64 ts)).set 3 (.string ti)).set 4 (.int .i64 tv))
    have HQ14 : Hid (Rdd (((((((((wa12.setCell ⟨nG, 0, none⟩ (.int .i64 gh)).setCell ⟨nG, 1, none⟩ (.int .i64 gr)).setCell ⟨nG, 2, none⟩ (.int .i64 gs)).setCell ⟨nG, 3, none⟩ (.string gi)).setCell ⟨nT, 0, none⟩ (.int .i64 th)).setCell ⟨nT, 1, none⟩ (.int .i64 tr)).setCell ⟨nT, 2, none⟩ (.int .i64 ts)).setCell ⟨nT, 3, none⟩ (.string ti)).setCell ⟨nT, 4, none⟩ (.int .i64 tv)) w.heap.size nS zo qa) := HQ13.out.grown KG14.out (fun j e => by injection e with e; omega)
    have HA14 : Hid (Rdd (((((((((wa12.setCell ⟨nG, 0, none⟩ (.int .i64 gh)).setCell ⟨nG, 1, none⟩ (.int .i64 gr)).setCell ⟨nG, 2, none⟩ (.int .i64 gs)).setCell ⟨nG, 3, none⟩ (.string gi)).setCell ⟨nT, 0, none⟩ (.int .i64 th)).setCell ⟨nT, 1, none⟩ (.int .i64 tr)).setCell ⟨nT, 2, none⟩ (.int .i64 ts)).setCell ⟨nT, 3, none⟩ (.string ti)).setCell ⟨nT, 4, none⟩ (.int .i64 tv)) w.heap.size nX [] ia) := HA13.out.grown KG14.out (fun j e => by injection e with e; omega)
    have HB14 : Hid (Below w.heap.size w (((((((((wa12.setCell ⟨nG, 0, none⟩ (.int .i64 gh)).setCell ⟨nG, 1, none⟩ (.int .i64 gr)).setCell ⟨nG, 2, none⟩ (.int .i64 gs)).setCell ⟨nG, 3, none⟩ (.string gi)).setCell ⟨nT, 0, none⟩ (.int .i64 th)).setCell ⟨nT, 1, none⟩ (.int .i64 tr)).setCell ⟨nT, 2, none⟩ (.int .i64 ts)).setCell ⟨nT, 3, none⟩ (.string ti)).setCell ⟨nT, 4, none⟩ (.int .i64 tv))) := HB13.out.grown KG14.out HB13.out.size (fun j e => by injection e with e; omega)
    go_upto_region 7 with fail
    clear hwa11 hnG hwa12 hnT cG_0_12 cG_1_12 cG_2_12 cG_3_12 cT_0_12 cT_1_12 cT_2_12 cT_3_12 cT_4_12 zG_12 zT_12 cT_0_13 cT_1_13 cT_2_13 cT_3_13 cT_4_13 zT_13
    clear HS12 HV12 HX12 HJ12 HG12 HT12 HB12 HQ12 HA12 KG13 HS13 HV13 HX13 HJ13 HG13 HT13 HB13 HQ13 HA13 KG14
    generalize (((((((((wa12.setCell ⟨nG, 0, none⟩ (.int .i64 gh)).setCell ⟨nG, 1, none⟩ (.int .i64 gr)).setCell ⟨nG, 2, none⟩ (.int .i64 gs)).setCell ⟨nG, 3, none⟩ (.string gi)).setCell ⟨nT, 0, none⟩ (.int .i64 th)).setCell ⟨nT, 1, none⟩ (.int .i64 tr)).setCell ⟨nT, 2, none⟩ (.int .i64 ts)).setCell ⟨nT, 3, none⟩ (.string ti)).setCell ⟨nT, 4, none⟩ (.int .i64 tv)) = w13 at *
    have hcc : ((2 : Int) != 2) = false := by simp
    have cG_0_14 := HG14.out.cell 0 rfl
    have cG_1_14 := HG14.out.cell 1 rfl
    have cG_2_14 := HG14.out.cell 2 rfl
    have cG_3_14 := HG14.out.cell 3 rfl
    have cT_0_14 := HT14.out.cell 0 rfl
    have cT_1_14 := HT14.out.cell 1 rfl
    have cT_2_14 := HT14.out.cell 2 rfl
    have cT_3_14 := HT14.out.cell 3 rfl
    have cT_4_14 := HT14.out.cell 4 rfl
    go_wp2_with fail
    clear cG_0_14 cG_1_14 cG_2_14 cG_3_14 cT_0_14 cT_1_14 cT_2_14 cT_3_14 cT_4_14
    have HS15 : Hid (Blk w13.drew nS [.int .i64 zv, .int .i64 zdh, .int .i64 zdr, .int .i64 zds, .string zdi, .int .i64 zmh, .int .i64 zmr, .int .i64 zms, .string zmi, .bool zp, .slice qa zo.length qc] 29) := HS14.out.below (Below.refl _ _).drew HS14.out.lt
    have HV15 : Hid (Blk w13.drew nV [.int .i64 yh, .int .i64 yr, .int .i64 ys, .string yi, .int .i64 yv] 31) := HV14.out.below (Below.refl _ _).drew HV14.out.lt
    have HX15 : Hid (Blk w13.drew nX [.int .i64 0, .int .i64 0, .int .i64 0, .int .i64 0, .string ⟨#[]⟩, .int .i64 0, .int .i64 0, .int .i64 0, .string ⟨#[]⟩, .bool false, .slice ia 0 ic] 29) := HX14.out.below (Below.refl _ _).drew HX14.out.lt
    have HJ15 : Hid (Blk w13.drew nJ [.int .i64 0, .int .i64 0, .int .i64 0, .int .i64 0, .string ⟨#[]⟩, .int .i64 0, .int .i64 0, .int .i64 0, .string ⟨#[]⟩, .bool false, .slice ja 0 jc] 29) := HJ14.out.below (Below.refl _ _).drew HJ14.out.lt
    have HG15 : Hid (Blk w13.drew nG [.int .i64 gh, .int .i64 gr, .int .i64 gs, .string gi] 26) := HG14.out.below (Below.refl _ _).drew HG14.out.lt
    have HT15 : Hid (Blk w13.drew nT [.int .i64 th, .int .i64 tr, .int .i64 ts, .string ti, .int .i64 tv] 31) := HT14.out.below (Below.refl _ _).drew HT14.out.lt
    have HQ15 : Hid (Rdd w13.drew w.heap.size nS zo qa) := HQ14.out.below (Below.refl _ _).drew
    have HA15 : Hid (Rdd w13.drew w.heap.size nX [] ia) := HA14.out.below (Below.refl _ _).drew
    have HB15 : Hid (Below w.heap.size w w13.drew) := HB14.out.trans (((Below.refl _ _).drew).mono HB14.out.size)
    clear HS14 HV14 HX14 HJ14 HG14 HT14 HB14 HQ14 HA14
    go_region_held3 (fun W : World => W.cell? ⟨nS, 0, none⟩ = some (.int .i64 zv) ∧ W.cell? ⟨nS, 1, none⟩ = some (.int .i64 zdh) ∧ W.cell? ⟨nS, 2, none⟩ = some (.int .i64 zdr) ∧ W.cell? ⟨nS, 3, none⟩ = some (.int .i64 zds) ∧ W.cell? ⟨nS, 4, none⟩ = some (.string zdi) ∧ W.cell? ⟨nS, 5, none⟩ = some (.int .i64 zmh) ∧ W.cell? ⟨nS, 6, none⟩ = some (.int .i64 zmr) ∧ W.cell? ⟨nS, 7, none⟩ = some (.int .i64 zms) ∧ W.cell? ⟨nS, 8, none⟩ = some (.string zmi) ∧ W.cell? ⟨nS, 9, none⟩ = some (.bool zp) ∧ W.cell? ⟨nS, 10, none⟩ = some (.slice qa zo.length qc) ∧ W.cell? ⟨nV, 0, none⟩ = some (.int .i64 yh) ∧ W.cell? ⟨nV, 1, none⟩ = some (.int .i64 yr) ∧ W.cell? ⟨nV, 2, none⟩ = some (.int .i64 ys) ∧ W.cell? ⟨nV, 3, none⟩ = some (.string yi) ∧ W.cell? ⟨nV, 4, none⟩ = some (.int .i64 yv) ∧ W.cell? ⟨nX, 0, none⟩ = some (.int .i64 0) ∧ W.cell? ⟨nX, 1, none⟩ = some (.int .i64 0) ∧ W.cell? ⟨nX, 2, none⟩ = some (.int .i64 0) ∧ W.cell? ⟨nX, 3, none⟩ = some (.int .i64 0) ∧ W.cell? ⟨nX, 4, none⟩ = some (.string ⟨#[]⟩) ∧ W.cell? ⟨nX, 5, none⟩ = some (.int .i64 0) ∧ W.cell? ⟨nX, 6, none⟩ = some (.int .i64 0) ∧ W.cell? ⟨nX, 7, none⟩ = some (.int .i64 0) ∧ W.cell? ⟨nX, 8, none⟩ = some (.string ⟨#[]⟩) ∧ W.cell? ⟨nX, 9, none⟩ = some (.bool false) ∧ W.cell? ⟨nX, 10, none⟩ = some (.slice ia 0 ic) ∧ W.cell? ⟨nJ, 0, none⟩ = some (.int .i64 0) ∧ W.cell? ⟨nJ, 1, none⟩ = some (.int .i64 0) ∧ W.cell? ⟨nJ, 2, none⟩ = some (.int .i64 0) ∧ W.cell? ⟨nJ, 3, none⟩ = some (.int .i64 0) ∧ W.cell? ⟨nJ, 4, none⟩ = some (.string ⟨#[]⟩) ∧ W.cell? ⟨nJ, 5, none⟩ = some (.int .i64 0) ∧ W.cell? ⟨nJ, 6, none⟩ = some (.int .i64 0) ∧ W.cell? ⟨nJ, 7, none⟩ = some (.int .i64 0) ∧ W.cell? ⟨nJ, 8, none⟩ = some (.string ⟨#[]⟩) ∧ W.cell? ⟨nJ, 9, none⟩ = some (.bool false) ∧ W.cell? ⟨nJ, 10, none⟩ = some (.slice ja 0 jc) ∧ W.cell? ⟨nG, 0, none⟩ = some (.int .i64 gh) ∧ W.cell? ⟨nG, 1, none⟩ = some (.int .i64 gr) ∧ W.cell? ⟨nG, 2, none⟩ = some (.int .i64 gs) ∧ W.cell? ⟨nG, 3, none⟩ = some (.string gi) ∧ W.cell? ⟨nT, 0, none⟩ = some (.int .i64 th) ∧ W.cell? ⟨nT, 1, none⟩ = some (.int .i64 tr) ∧ W.cell? ⟨nT, 2, none⟩ = some (.int .i64 ts) ∧ W.cell? ⟨nT, 3, none⟩ = some (.string ti) ∧ W.cell? ⟨nT, 4, none⟩ = some (.int .i64 tv)) (first | assumption | exact ⟨HS17.out.cell 0 rfl, HS17.out.cell 1 rfl, HS17.out.cell 2 rfl, HS17.out.cell 3 rfl, HS17.out.cell 4 rfl, HS17.out.cell 5 rfl, HS17.out.cell 6 rfl, HS17.out.cell 7 rfl, HS17.out.cell 8 rfl, HS17.out.cell 9 rfl, HS17.out.cell 10 rfl, HV17.out.cell 0 rfl, HV17.out.cell 1 rfl, HV17.out.cell 2 rfl, HV17.out.cell 3 rfl, HV17.out.cell 4 rfl, HX17.out.cell 0 rfl, HX17.out.cell 1 rfl, HX17.out.cell 2 rfl, HX17.out.cell 3 rfl, HX17.out.cell 4 rfl, HX17.out.cell 5 rfl, HX17.out.cell 6 rfl, HX17.out.cell 7 rfl, HX17.out.cell 8 rfl, HX17.out.cell 9 rfl, HX17.out.cell 10 rfl, HJ17.out.cell 0 rfl, HJ17.out.cell 1 rfl, HJ17.out.cell 2 rfl, HJ17.out.cell 3 rfl, HJ17.out.cell 4 rfl, HJ17.out.cell 5 rfl, HJ17.out.cell 6 rfl, HJ17.out.cell 7 rfl, HJ17.out.cell 8 rfl, HJ17.out.cell 9 rfl, HJ17.out.cell 10 rfl, HG17.out.cell 0 rfl, HG17.out.cell 1 rfl, HG17.out.cell 2 rfl, HG17.out.cell 3 rfl, HT17.out.cell 0 rfl, HT17.out.cell 1 rfl, HT17.out.cell 2 rfl, HT17.out.cell 3 rfl, HT17.out.cell 4 rfl⟩ | exact ⟨HS16.out.cell 0 rfl, HS16.out.cell 1 rfl, HS16.out.cell 2 rfl, HS16.out.cell 3 rfl, HS16.out.cell 4 rfl, HS16.out.cell 5 rfl, HS16.out.cell 6 rfl, HS16.out.cell 7 rfl, HS16.out.cell 8 rfl, HS16.out.cell 9 rfl, HS16.out.cell 10 rfl, HV16.out.cell 0 rfl, HV16.out.cell 1 rfl, HV16.out.cell 2 rfl, HV16.out.cell 3 rfl, HV16.out.cell 4 rfl, HX16.out.cell 0 rfl, HX16.out.cell 1 rfl, HX16.out.cell 2 rfl, HX16.out.cell 3 rfl, HX16.out.cell 4 rfl, HX16.out.cell 5 rfl, HX16.out.cell 6 rfl, HX16.out.cell 7 rfl, HX16.out.cell 8 rfl, HX16.out.cell 9 rfl, HX16.out.cell 10 rfl, HJ16.out.cell 0 rfl, HJ16.out.cell 1 rfl, HJ16.out.cell 2 rfl, HJ16.out.cell 3 rfl, HJ16.out.cell 4 rfl, HJ16.out.cell 5 rfl, HJ16.out.cell 6 rfl, HJ16.out.cell 7 rfl, HJ16.out.cell 8 rfl, HJ16.out.cell 9 rfl, HJ16.out.cell 10 rfl, HG16.out.cell 0 rfl, HG16.out.cell 1 rfl, HG16.out.cell 2 rfl, HG16.out.cell 3 rfl, HT16.out.cell 0 rfl, HT16.out.cell 1 rfl, HT16.out.cell 2 rfl, HT16.out.cell 3 rfl, HT16.out.cell 4 rfl⟩ | exact ⟨HS15.out.cell 0 rfl, HS15.out.cell 1 rfl, HS15.out.cell 2 rfl, HS15.out.cell 3 rfl, HS15.out.cell 4 rfl, HS15.out.cell 5 rfl, HS15.out.cell 6 rfl, HS15.out.cell 7 rfl, HS15.out.cell 8 rfl, HS15.out.cell 9 rfl, HS15.out.cell 10 rfl, HV15.out.cell 0 rfl, HV15.out.cell 1 rfl, HV15.out.cell 2 rfl, HV15.out.cell 3 rfl, HV15.out.cell 4 rfl, HX15.out.cell 0 rfl, HX15.out.cell 1 rfl, HX15.out.cell 2 rfl, HX15.out.cell 3 rfl, HX15.out.cell 4 rfl, HX15.out.cell 5 rfl, HX15.out.cell 6 rfl, HX15.out.cell 7 rfl, HX15.out.cell 8 rfl, HX15.out.cell 9 rfl, HX15.out.cell 10 rfl, HJ15.out.cell 0 rfl, HJ15.out.cell 1 rfl, HJ15.out.cell 2 rfl, HJ15.out.cell 3 rfl, HJ15.out.cell 4 rfl, HJ15.out.cell 5 rfl, HJ15.out.cell 6 rfl, HJ15.out.cell 7 rfl, HJ15.out.cell 8 rfl, HJ15.out.cell 9 rfl, HJ15.out.cell 10 rfl, HG15.out.cell 0 rfl, HG15.out.cell 1 rfl, HG15.out.cell 2 rfl, HG15.out.cell 3 rfl, HT15.out.cell 0 rfl, HT15.out.cell 1 rfl, HT15.out.cell 2 rfl, HT15.out.cell 3 rfl, HT15.out.cell 4 rfl⟩) (first | (go_at_call 21; refine (kP _).mono ?_; rintro e w14 ⟨rfl, bb14⟩; have HS16 : Hid (Blk w14 nS [.int .i64 zv, .int .i64 zdh, .int .i64 zdr, .int .i64 zds, .string zdi, .int .i64 zmh, .int .i64 zmr, .int .i64 zms, .string zmi, .bool zp, .slice qa zo.length qc] 29) := HS15.out.below bb14 HS15.out.lt; have HV16 : Hid (Blk w14 nV [.int .i64 yh, .int .i64 yr, .int .i64 ys, .string yi, .int .i64 yv] 31) := HV15.out.below bb14 HV15.out.lt; have HX16 : Hid (Blk w14 nX [.int .i64 0, .int .i64 0, .int .i64 0, .int .i64 0, .string ⟨#[]⟩, .int .i64 0, .int .i64 0, .int .i64 0, .string ⟨#[]⟩, .bool false, .slice ia 0 ic] 29) := HX15.out.below bb14 HX15.out.lt; have HJ16 : Hid (Blk w14 nJ [.int .i64 0, .int .i64 0, .int .i64 0, .int .i64 0, .string ⟨#[]⟩, .int .i64 0, .int .i64 0, .int .i64 0, .string ⟨#[]⟩, .bool false, .slice ja 0 jc] 29) := HJ15.out.below bb14 HJ15.out.lt; have HG16 : Hid (Blk w14 nG [.int .i64 gh, .int .i64 gr, .int .i64 gs, .string gi] 26) := HG15.out.below bb14 HG15.out.lt; have HT16 : Hid (Blk w14 nT [.int .i64 th, .int .i64 tr, .int .i64 ts, .string ti, .int .i64 tv] 31) := HT15.out.below bb14 HT15.out.lt; have HQ16 : Hid (Rdd w14 w.heap.size nS zo qa) := HQ15.out.below bb14; have HA16 : Hid (Rdd w14 w.heap.size nX [] ia) := HA15.out.below bb14; have HB16 : Hid (Below w.heap.size w w14) := HB15.out.trans (bb14.mono HB15.out.size)) | (go_at_call 22; refine (kR _).mono ?_; rintro e w15 ⟨rfl, bb15⟩; have HS17 : Hid (Blk w15 nS [.int .i64 zv, .int .i64 zdh, .int .i64 zdr, .int .i64 zds, .string zdi, .int .i64 zmh, .int .i64 zmr, .int .i64 zms, .string zmi, .bool zp, .slice qa zo.length qc] 29) := HS16.out.below bb15 HS16.out.lt; have HV17 : Hid (Blk w15 nV [.int .i64 yh, .int .i64 yr, .int .i64 ys, .string yi, .int .i64 yv] 31) := HV16.out.below bb15 HV16.out.lt; have HX17 : Hid (Blk w15 nX [.int .i64 0, .int .i64 0, .int .i64 0, .int .i64 0, .string ⟨#[]⟩, .int .i64 0, .int .i64 0, .int .i64 0, .string ⟨#[]⟩, .bool false, .slice ia 0 ic] 29) := HX16.out.below bb15 HX16.out.lt; have HJ17 : Hid (Blk w15 nJ [.int .i64 0, .int .i64 0, .int .i64 0, .int .i64 0, .string ⟨#[]⟩, .int .i64 0, .int .i64 0, .int .i64 0, .string ⟨#[]⟩, .bool false, .slice ja 0 jc] 29) := HJ16.out.below bb15 HJ16.out.lt; have HG17 : Hid (Blk w15 nG [.int .i64 gh, .int .i64 gr, .int .i64 gs, .string gi] 26) := HG16.out.below bb15 HG16.out.lt; have HT17 : Hid (Blk w15 nT [.int .i64 th, .int .i64 tr, .int .i64 ts, .string ti, .int .i64 tv] 31) := HT16.out.below bb15 HT16.out.lt; have HQ17 : Hid (Rdd w15 w.heap.size nS zo qa) := HQ16.out.below bb15; have HA17 : Hid (Rdd w15 w.heap.size nX [] ia) := HA16.out.below bb15; have HB17 : Hid (Below w.heap.size w w15) := HB16.out.trans (bb15.mono HB16.out.size)))
    clear HS15 HV15 HX15 HJ15 HG15 HT15 HB15 HQ15 HA15 bb14 HS16 HV16 HX16 HJ16 HG16 HT16 HB16 HQ16 HA16 bb15
    clear kP kR
    have cS_0_17 := HS17.out.cell 0 rfl
    have cS_1_17 := HS17.out.cell 1 rfl
    have cS_2_17 := HS17.out.cell 2 rfl
    have cS_3_17 := HS17.out.cell 3 rfl
    have cS_4_17 := HS17.out.cell 4 rfl
    have cS_5_17 := HS17.out.cell 5 rfl
    have cS_6_17 := HS17.out.cell 6 rfl
    have cS_7_17 := HS17.out.cell 7 rfl
    have cS_8_17 := HS17.out.cell 8 rfl
    have cS_9_17 := HS17.out.cell 9 rfl
    have cS_10_17 := HS17.out.cell 10 rfl
    go_wp2_with fail
    clear cS_0_17 cS_1_17 cS_2_17 cS_3_17 cS_4_17 cS_5_17 cS_6_17 cS_7_17 cS_8_17 cS_9_17 cS_10_17
    refine (kS _ HQ17.out.1).mono ?_
    rintro e w16 ⟨rfl, bb⟩
    have HS18 : Hid (Blk w16 nS [.int .i64 zv, .int .i64 zdh, .int .i64 zdr, .int .i64 zds, .string zdi, .int .i64 zmh, .int .i64 zmr, .int .i64 zms, .string zmi, .bool zp, .slice qa zo.length qc] 29) := HS17.out.below bb HS17.out.lt
    have HV18 : Hid (Blk w16 nV [.int .i64 yh, .int .i64 yr, .int .i64 ys, .string yi, .int .i64 yv] 31) := HV17.out.below bb HV17.out.lt
    have HX18 : Hid (Blk w16 nX [.int .i64 0, .int .i64 0, .int .i64 0, .int .i64 0, .string ⟨#[]⟩, .int .i64 0, .int .i64 0, .int .i64 0, .string ⟨#[]⟩, .bool false, .slice ia 0 ic] 29) := HX17.out.below bb HX17.out.lt
    have HJ18 : Hid (Blk w16 nJ [.int .i64 0, .int .i64 0, .int .i64 0, .int .i64 0, .string ⟨#[]⟩, .int .i64 0, .int .i64 0, .int .i64 0, .string ⟨#[]⟩, .bool false, .slice ja 0 jc] 29) := HJ17.out.below bb HJ17.out.lt
    have HG18 : Hid (Blk w16 nG [.int .i64 gh, .int .i64 gr, .int .i64 gs, .string gi] 26) := HG17.out.below bb HG17.out.lt
    have HT18 : Hid (Blk w16 nT [.int .i64 th, .int .i64 tr, .int .i64 ts, .string ti, .int .i64 tv] 31) := HT17.out.below bb HT17.out.lt
    have HQ18 : Hid (Rdd w16 w.heap.size nS zo qa) := HQ17.out.below bb
    have HA18 : Hid (Rdd w16 w.heap.size nX [] ia) := HA17.out.below bb
    have HB18 : Hid (Below w.heap.size w w16) := HB17.out.trans (bb.mono HB17.out.size)
    clear HS17 HV17 HX17 HJ17 HG17 HT17 HB17 HQ17 HA17
    clear bb
    clear kS
    have cX_0_18 := HX18.out.cell 0 rfl
    have cX_1_18 := HX18.out.cell 1 rfl
    have cX_2_18 := HX18.out.cell 2 rfl
    have cX_3_18 := HX18.out.cell 3 rfl
    have cX_4_18 := HX18.out.cell 4 rfl
    have cX_5_18 := HX18.out.cell 5 rfl
    have cX_6_18 := HX18.out.cell 6 rfl
    have cX_7_18 := HX18.out.cell 7 rfl
    have cX_8_18 := HX18.out.cell 8 rfl
    have cX_9_18 := HX18.out.cell 9 rfl
    have cX_10_18 := HX18.out.cell 10 rfl
    go_wp2
    go_ret
    exact ⟨rfl, HB18.out⟩
  · skip
    simp only [hs] at kS
    simp only [hx] at kX
    simp only [hu] at kZ
    subst hb
    clear hx hu
    obtain ⟨xv, ⟨xdh, xdr, xds, xdi⟩, ⟨xmh, xmr, xms, xmi⟩, xp, xo⟩ := x
    obtain ⟨uv, ⟨udh, udr, uds, udi⟩, ⟨umh, umr, ums, umi⟩, up, uo⟩ := u
    obtain ⟨zv, ⟨zdh, zdr, zds, zdi⟩, ⟨zmh, zmr, zms, zmi⟩, zp, zo⟩ := z
    obtain ⟨yh, yr, ys, yi, yv⟩ := y
    unfold sV sQ tV at *
    simp only at *
    obtain ⟨rfl, rfl, rfl, rfl⟩ : xdh = zdh ∧ xdr = zdr ∧ xds = zds ∧ xdi = zdi := by simpa using hd
    clear hd
    subst hc
    subst hp
    clear hs
    have hE1 := fun W => run_eqG ⟨xdh, xdr, xds, xdi⟩ ⟨xdh, xdr, xds, xdi⟩ W
    have hE2 := fun W => run_eqG ⟨xmh, xmr, xms, xmi⟩ ⟨zmh, zmr, zms, zmi⟩ W
    simp only [show geB (⟨xdh, xdr, xds, xdi⟩ : Gt) ⟨xdh, xdr, xds, xdi⟩ = true from geB_iff.2 rfl] at hE1
    clear hE2
    have hg := guardG
    obtain ⟨wa3, hwa3⟩ : ∃ W, w2.alloc (.cells #[.int .i64 0, .int .i64 0, .int .i64 0, .int .i64 0, .string ⟨#[]⟩, .int .i64 0, .int .i64 0, .int .i64 0, .string ⟨#[]⟩, .bool false, .slice none 0 0] 29) = W := ⟨_, rfl⟩
    have HAnS : Hid (Below w2.heap.size w2 wa3) := by rw [← hwa3]; exact below_one _ _
    have HQ2 : Hid (Rdd wa3 w.heap.size nS zo qa) := HQ0.out.below HAnS.out
    have HB2 : Hid (Below w.heap.size w wa3) := HB1.out.trans (HAnS.out.mono HB1.out.size)
    have HS2 : Hid (Blk wa3 nS [.int .i64 0, .int .i64 0, .int .i64 0, .int .i64 0, .string ⟨#[]⟩, .int .i64 0, .int .i64 0, .int .i64 0, .string ⟨#[]⟩, .bool false, .slice none 0 0] 29) := by rw [← hwa3, ← hnS]; exact blk_new _ _ _
    clear HAnS HB1 HQ0
    obtain ⟨nV, hnV⟩ : ∃ n, wa3.heap.size = n := ⟨_, rfl⟩
    have hnVS : nS < nV := by rw [← hnV]; exact HS2.out.lt
    obtain ⟨wa4, hwa4⟩ : ∃ W, wa3.alloc (.cells #[.int .i64 0, .int .i64 0, .int .i64 0, .string ⟨#[]⟩, .int .i64 0] 31) = W := ⟨_, rfl⟩
    have HAnV : Hid (Below wa3.heap.size wa3 wa4) := by rw [← hwa4]; exact below_one _ _
    have HS3 : Hid (Blk wa4 nS [.int .i64 0, .int .i64 0, .int .i64 0, .int .i64 0, .string ⟨#[]⟩, .int .i64 0, .int .i64 0, .int .i64 0, .string ⟨#[]⟩, .bool false, .slice none 0 0] 29) := HS2.out.below HAnV.out HS2.out.lt
    have HQ3 : Hid (Rdd wa4 w.heap.size nS zo qa) := HQ2.out.below HAnV.out
    have HB3 : Hid (Below w.heap.size w wa4) := HB2.out.trans (HAnV.out.mono HB2.out.size)
    have HV3 : Hid (Blk wa4 nV [.int .i64 0, .int .i64 0, .int .i64 0, .string ⟨#[]⟩, .int .i64 0] 31) := by rw [← hwa4, ← hnV]; exact blk_new _ _ _
    clear HAnV HS2 HB2 HQ2
    have cS_0_3 := HS3.out.cell 0 rfl
    have cS_1_3 := HS3.out.cell 1 rfl
    have cS_2_3 := HS3.out.cell 2 rfl
    have cS_3_3 := HS3.out.cell 3 rfl
    have cS_4_3 := HS3.out.cell 4 rfl
    have cS_5_3 := HS3.out.cell 5 rfl
    have cS_6_3 := HS3.out.cell 6 rfl
    have cS_7_3 := HS3.out.cell 7 rfl
    have cS_8_3 := HS3.out.cell 8 rfl
    have cS_9_3 := HS3.out.cell 9 rfl
    have cS_10_3 := HS3.out.cell 10 rfl
    have cV_0_3 := HV3.out.cell 0 rfl
    have cV_1_3 := HV3.out.cell 1 rfl
    have cV_2_3 := HV3.out.cell 2 rfl
    have cV_3_3 := HV3.out.cell 3 rfl
    have cV_4_3 := HV3.out.cell 4 rfl
    have zS_3 := fun j => HS3.out.frozen j
    have zV_3 := fun j => HV3.out.frozen j
    have KG4 : Hid (wa4.grownBy (((((((((((wa4.setCell ⟨nS, 0, none⟩ (.int .i64 zv)).setCell ⟨nS, 1, none⟩ (.int .i64 xdh)).setCell ⟨nS, 2, none⟩ (.int .i64 xdr)).setCell ⟨nS, 3, none⟩ (.int .i64 xds)).setCell ⟨nS, 4, none⟩ (.string xdi)).setCell ⟨nS, 5, none⟩ (.int .i64 zmh)).setCell ⟨nS, 6, none⟩ (.int .i64 zmr)).setCell ⟨nS, 7, none⟩ (.int .i64 zms)).setCell ⟨nS, 8, none⟩ (.string zmi)).setCell ⟨nS, 9, none⟩ (.bool zp)).setCell ⟨nS, 10, none⟩ (.slice qa zo.length qc)) (some nS)) := grown_set (grown_set (grown_set (grown_set (grown_set (grown_set (grown_set (grown_set (grown_set (grown_set (grown_set (grown_refl _ _) _) _) _) _) _) _) _) _) _) _) _
    have HS4 : Hid (Blk (((((((((((wa4.setCell ⟨nS, 0, none⟩ (.int .i64 zv)).setCell ⟨nS, 1, none⟩ (.int .i64 xdh)).setCell ⟨nS, 2, none⟩ (.int .i64 xdr)).setCell ⟨nS, 3, none⟩ (.int .i64 xds)).setCell ⟨nS, 4, none⟩ (.string xdi)).setCell ⟨nS, 5, none⟩ (.int .i64 zmh)).setCell ⟨nS, 6, none⟩ (.int .i64 zmr)).setCell ⟨nS, 7, none⟩ (.int .i64 zms)).setCell ⟨nS, 8, none⟩ (.string zmi)).setCell ⟨nS, 9, none⟩ (.bool zp)).setCell ⟨nS, 10, none⟩ (.slice qa zo.length qc)) nS [.int .i64 zv, .int .i64 xdh, .int .i64 xdr, .int .i64 xds, .string xdi, .int .i64 zmh, .int .i64 zmr, .int .i64 zms, .string zmi, .bool zp, .slice qa zo.length qc] 29) := (((((((((((HS3.out.set 0 (.int .i64 zv)).set 1 (.int .i64 xdh)).set 2 (.int .i64 xdr)).set 3 (.int .i64 xds)).set 4 (.string xdi)).set 5 (.int .i64 zmh)).set 6 (.int .i64 zmr)).set 7 (.int .i64 zms)).set 8 (.string zmi)).set 9 (.bool zp)).set 10 (.slice qa zo.length qc))
    have HV4 : Hid (Blk (((((((((((wa4.setCell ⟨nS, 0, none⟩ (.int .i64 zv)).setCell ⟨nS, 1, none⟩ (.int .i64 xdh)).setCell ⟨nS, 2, none⟩ (.int .i64 xdr)).setCell ⟨nS, 3, none⟩ (.int .i64 xds)).setCell ⟨nS, 4, none⟩ (.string xdi)).setCell ⟨nS, 5, none⟩ (.int .i64 zmh)).setCell ⟨nS, 6, none⟩ (.int .i64 zmr)).setCell ⟨nS, 7, none⟩ (.int .i64 zms)).setCell ⟨nS, 8, none⟩ (.string zmi)).setCell ⟨nS, 9, none⟩ (.bool zp)).setCell ⟨nS, 10, none⟩ (.slice qa zo.length qc)) nV [.int .i64 0, .int .i64 0, .int .i64 0, .string ⟨#[]⟩, .int .i64 0] 31) := HV3.out.grown KG4.out (fun e => by injection e with e; omega)
    have HQ4 : Hid (Rdd (((((((((((wa4.setCell ⟨nS, 0, none⟩ (.int .i64 zv)).setCell ⟨nS, 1, none⟩ (.int .i64 xdh)).setCell ⟨nS, 2, none⟩ (.int .i64 xdr)).setCell ⟨nS, 3, none⟩ (.int .i64 xds)).setCell ⟨nS, 4, none⟩ (.string xdi)).setCell ⟨nS, 5, none⟩ (.int .i64 zmh)).setCell ⟨nS, 6, none⟩ (.int .i64 zmr)).setCell ⟨nS, 7, none⟩ (.int .i64 zms)).setCell ⟨nS, 8, none⟩ (.string zmi)).setCell ⟨nS, 9, none⟩ (.bool zp)).setCell ⟨nS, 10, none⟩ (.slice qa zo.length qc)) w.heap.size nS zo qa) := HQ3.out.grown KG4.out (fun j e => by injection e with e; omega)
    have HB4 : Hid (Below w.heap.size w (((((((((((wa4.setCell ⟨nS, 0, none⟩ (.int .i64 zv)).setCell ⟨nS, 1, none⟩ (.int .i64 xdh)).setCell ⟨nS, 2, none⟩ (.int .i64 xdr)).setCell ⟨nS, 3, none⟩ (.int .i64 xds)).setCell ⟨nS, 4, none⟩ (.string xdi)).setCell ⟨nS, 5, none⟩ (.int .i64 zmh)).setCell ⟨nS, 6, none⟩ (.int .i64 zmr)).setCell ⟨nS, 7, none⟩ (.int .i64 zms)).setCell ⟨nS, 8, none⟩ (.string zmi)).setCell ⟨nS, 9, none⟩ (.bool zp)).setCell ⟨nS, 10, none⟩ (.slice qa zo.length qc))) := HB3.out.grown KG4.out HB3.out.size (fun j e => by injection e with e; omega)
    have cV_0_4 := HV4.out.cell 0 rfl
    have cV_1_4 := HV4.out.cell 1 rfl
    have cV_2_4 := HV4.out.cell 2 rfl
    have cV_3_4 := HV4.out.cell 3 rfl
    have cV_4_4 := HV4.out.cell 4 rfl
    have zV_4 := fun j => HV4.out.frozen j
    have KG5 : Hid ((((((((((((wa4.setCell ⟨nS, 0, none⟩ (.int .i64 zv)).setCell ⟨nS, 1, none⟩ (.int .i64 xdh)).setCell ⟨nS, 2, none⟩ (.int .i64 xdr)).setCell ⟨nS, 3, none⟩ (.int .i64 xds)).setCell ⟨nS, 4, none⟩ (.string xdi)).setCell ⟨nS, 5, none⟩ (.int .i64 zmh)).setCell ⟨nS, 6, none⟩ (.int .i64 zmr)).setCell ⟨nS, 7, none⟩ (.int .i64 zms)).setCell ⟨nS, 8, none⟩ (.string zmi)).setCell ⟨nS, 9, none⟩ (.bool zp)).setCell ⟨nS, 10, none⟩ (.slice qa zo.length qc)).grownBy ((((((((((((((((wa4.setCell ⟨nS, 0, none⟩ (.int .i64 zv)).setCell ⟨nS, 1, none⟩ (.int .i64 xdh)).setCell ⟨nS, 2, none⟩ (.int .i64 xdr)).setCell ⟨nS, 3, none⟩ (.int .i64 xds)).setCell ⟨nS, 4, none⟩ (.string xdi)).setCell ⟨nS, 5, none⟩ (.int .i64 zmh)).setCell ⟨nS, 6, none⟩ (.int .i64 zmr)).setCell ⟨nS, 7, none⟩ (.int .i64 zms)).setCell ⟨nS, 8, none⟩ (.string zmi)).setCell ⟨nS, 9, none⟩ (.bool zp)).setCell ⟨nS, 10, none⟩ (.slice qa zo.length qc)).setCell ⟨nV, 0, none⟩ (.int .i64 yh)).setCell ⟨nV, 1, none⟩ (.int .i64 yr)).setCell ⟨nV, 2, none⟩ (.int .i64 ys)).setCell ⟨nV, 3, none⟩ (.string yi)).setCell ⟨nV, 4, none⟩ (.int .i64 yv)) (some nV)) := grown_set (grown_set (grown_set (grown_set (grown_set (grown_refl _ _) _) _) _) _) _
    have HS5 : Hid (Blk ((((((((((((((((wa4.setCell ⟨nS, 0, none⟩ (.int .i64 zv)).setCell ⟨nS, 1, none⟩ (.int .i64 xdh)).setCell ⟨nS, 2, none⟩ (.int .i64 xdr)).setCell ⟨nS, 3, none⟩ (.int .i64 xds)).setCell ⟨nS, 4, none⟩ (.string xdi)).setCell ⟨nS, 5, none⟩ (.int .i64 zmh)).setCell ⟨nS, 6, none⟩ (.int .i64 zmr)).setCell ⟨nS, 7, none⟩ (.int .i64 zms)).setCell ⟨nS, 8, none⟩ (.string zmi)).setCell ⟨nS, 9, none⟩ (.bool zp)).setCell ⟨nS, 10, none⟩ (.slice qa zo.length qc)).setCell ⟨nV, 0, none⟩ (.int .i64 yh)).setCell ⟨nV, 1, none⟩ (.int .i64 yr)).setCell ⟨nV, 2, none⟩ (.int .i64 ys)).setCell ⟨nV, 3, none⟩ (.string yi)).setCell ⟨nV, 4, none⟩ (.int .i64 yv)) nS [.int .i64 zv, .int .i64 xdh, .int .i64 xdr, .int .i64 xds, .string xdi, .int .i64 zmh, .int .i64 zmr, .int .i64 zms, .string zmi, .bool zp, .slice qa zo.length qc] 29) := HS4.out.grown KG5.out (fun e => by injection e with e; omega)
    have HV5 : Hid (Blk ((((((((((((((((wa4.setCell ⟨nS, 0, none⟩ (.int .i64 zv)).setCell ⟨nS, 1, none⟩ (.int .i64 xdh)).setCell ⟨nS, 2, none⟩ (.int .i64 xdr)).setCell ⟨nS, 3, none⟩ (.int .i64 xds)).setCell ⟨nS, 4, none⟩ (.string xdi)).setCell ⟨nS, 5, none⟩ (.int .i64 zmh)).setCell ⟨nS, 6, none⟩ (.int .i64 zmr)).setCell ⟨nS, 7, none⟩ (.int .i64 zms)).setCell ⟨nS, 8, none⟩ (.string zmi)).setCell ⟨nS, 9, none⟩ (.bool zp)).setCell ⟨nS, 10, none⟩ (.slice qa zo.length qc)).setCell ⟨nV, 0, none⟩ (.int .i64 yh)).setCell ⟨nV, 1, none⟩ (.int .i64 yr)).setCell ⟨nV, 2, none⟩ (.int .i64 ys)).setCell ⟨nV, 3, none⟩ (.string yi)).setCell ⟨nV, 4, none⟩ (.int .i64 yv)) nV [.int .i64 yh, .int .i64 yr, .int .i64 ys, .string yi, .int .i64 yv] 31) := (((((HV4.out.set 0 (.int .i64 yh)).set 1 (.int .i64 yr)).set 2 (.int .i64 ys)).set 3 (.string yi)).set 4 (.int .i64 yv))
    have HQ5 : Hid (Rdd ((((((((((((((((wa4.setCell ⟨nS, 0, none⟩ (.int .i64 zv)).setCell ⟨nS, 1, none⟩ (.int .i64 xdh)).setCell ⟨nS, 2, none⟩ (.int .i64 xdr)).setCell ⟨nS, 3, none⟩ (.int .i64 xds)).setCell ⟨nS, 4, none⟩ (.string xdi)).setCell ⟨nS, 5, none⟩ (.int .i64 zmh)).setCell ⟨nS, 6, none⟩ (.int .i64 zmr)).setCell ⟨nS, 7, none⟩ (.int .i64 zms)).setCell ⟨nS, 8, none⟩ (.string zmi)).setCell ⟨nS, 9, none⟩ (.bool zp)).setCell ⟨nS, 10, none⟩ (.slice qa zo.length qc)).setCell ⟨nV, 0, none⟩ (.int .i64 yh)).setCell ⟨nV, 1, none⟩ (.int .i64 yr)).setCell ⟨nV, 2, none⟩ (.int .i64 ys)).setCell ⟨nV, 3, none⟩ (.string yi)).setCell ⟨nV, 4, none⟩ (.int .i64 yv)) w.heap.size nS zo qa) := HQ4.out.grown KG5.out (fun j e => by injection e with e; omega)
    have HB5 : Hid (Below w.heap.size w ((((((((((((((((wa4.setCell ⟨nS, 0, none⟩ (.int .i64 zv)).setCell ⟨nS, 1, none⟩ (.int .i64 xdh)).setCell ⟨nS, 2, none⟩ (.int .i64 xdr)).setCell ⟨nS, 3, none⟩ (.int .i64 xds)).setCell ⟨nS, 4, none⟩ (.string xdi)).setCell ⟨nS, 5, none⟩ (.int .i64 zmh)).setCell ⟨nS, 6, none⟩ (.int .i64 zmr)).setCell ⟨nS, 7, none⟩ (.int .i64 zms)).setCell ⟨nS, 8, none⟩ (.string zmi)).setCell ⟨nS, 9, none⟩ (.bool zp)).setCell ⟨nS, 10, none⟩ (.slice qa zo.length qc)).setCell ⟨nV, 0, none⟩ (.int .i64 yh)).setCell ⟨nV, 1, none⟩ (.int .i64 yr)).setCell ⟨nV, 2, none⟩ (.int .i64 ys)).setCell ⟨nV, 3, none⟩ (.string yi)).setCell ⟨nV, 4, none⟩ (.int .i64 yv))) := HB4.out.grown KG5.out HB4.out.size (fun j e => by injection e with e; omega)
    go_upto_region 4 with fail
    clear hwa3 hnS hwa4 hnV cS_0_3 cS_1_3 cS_2_3 cS_3_3 cS_4_3 cS_5_3 cS_6_3 cS_7_3 cS_8_3 cS_9_3 cS_10_3 cV_0_3 cV_1_3 cV_2_3 cV_3_3 cV_4_3 zS_3 zV_3 cV_0_4 cV_1_4 cV_2_4 cV_3_4 cV_4_4 zV_4
    clear HS3 HV3 HB3 HQ3 KG4 HS4 HV4 HB4 HQ4 KG5
    generalize ((((((((((((((((wa4.setCell ⟨nS, 0, none⟩ (.int .i64 zv)).setCell ⟨nS, 1, none⟩ (.int .i64 xdh)).setCell ⟨nS, 2, none⟩ (.int .i64 xdr)).setCell ⟨nS, 3, none⟩ (.int .i64 xds)).setCell ⟨nS, 4, none⟩ (.string xdi)).setCell ⟨nS, 5, none⟩ (.int .i64 zmh)).setCell ⟨nS, 6, none⟩ (.int .i64 zmr)).setCell ⟨nS, 7, none⟩ (.int .i64 zms)).setCell ⟨nS, 8, none⟩ (.string zmi)).setCell ⟨nS, 9, none⟩ (.bool zp)).setCell ⟨nS, 10, none⟩ (.slice qa zo.length qc)).setCell ⟨nV, 0, none⟩ (.int .i64 yh)).setCell ⟨nV, 1, none⟩ (.int .i64 yr)).setCell ⟨nV, 2, none⟩ (.int .i64 ys)).setCell ⟨nV, 3, none⟩ (.string yi)).setCell ⟨nV, 4, none⟩ (.int .i64 yv)) = w5 at *
    have cS_0_5 := HS5.out.cell 0 rfl
    have cS_1_5 := HS5.out.cell 1 rfl
    have cS_2_5 := HS5.out.cell 2 rfl
    have cS_3_5 := HS5.out.cell 3 rfl
    have cS_4_5 := HS5.out.cell 4 rfl
    have cS_5_5 := HS5.out.cell 5 rfl
    have cS_6_5 := HS5.out.cell 6 rfl
    have cS_7_5 := HS5.out.cell 7 rfl
    have cS_8_5 := HS5.out.cell 8 rfl
    have cS_9_5 := HS5.out.cell 9 rfl
    have cS_10_5 := HS5.out.cell 10 rfl
    have cV_0_5 := HV5.out.cell 0 rfl
    have cV_1_5 := HV5.out.cell 1 rfl
    have cV_2_5 := HV5.out.cell 2 rfl
    have cV_3_5 := HV5.out.cell 3 rfl
    have cV_4_5 := HV5.out.cell 4 rfl
    go_wp2_with fail
    clear cS_0_5 cS_1_5 cS_2_5 cS_3_5 cS_4_5 cS_5_5 cS_6_5 cS_7_5 cS_8_5 cS_9_5 cS_10_5 cV_0_5 cV_1_5 cV_2_5 cV_3_5 cV_4_5
    refine (kI _ HQ5.out.1).mono ?_
    rintro e w6 ⟨ia, ic, rfl, HQ, bb⟩
    have HX1 : Hid (Rdd w6 w.heap.size w6.heap.size xo ia) := OwnY.rdd2 (own_less HQ.out HB5.out.size)
    clear HQ
    have HS6 : Hid (Blk w6 nS [.int .i64 zv, .int .i64 xdh, .int .i64 xdr, .int .i64 xds, .string xdi, .int .i64 zmh, .int .i64 zmr, .int .i64 zms, .string zmi, .bool zp, .slice qa zo.length qc] 29) := HS5.out.below bb HS5.out.lt
    have HV6 : Hid (Blk w6 nV [.int .i64 yh, .int .i64 yr, .int .i64 ys, .string yi, .int .i64 yv] 31) := HV5.out.below bb HV5.out.lt
    have HQ6 : Hid (Rdd w6 w.heap.size nS zo qa) := HQ5.out.below bb
    have HB6 : Hid (Below w.heap.size w w6) := HB5.out.trans (bb.mono HB5.out.size)
    clear HS5 HV5 HB5 HQ5
    clear bb
    clear kI
    obtain ⟨nX, hnX⟩ : ∃ n, w6.heap.size = n := ⟨_, rfl⟩
    have hnXS : nS < nX := by rw [← hnX]; exact HS6.out.lt
    have hnXV : nV < nX := by rw [← hnX]; exact HV6.out.lt
    have HA0 : Hid (Rdd w6 w.heap.size nX xo ia) := by rw [← hnX]; exact HX1.out
    clear HX1
    obtain ⟨wa7, hwa7⟩ : ∃ W, w6.alloc (.cells #[.int .i64 xv, .int .i64 xdh, .int .i64 xdr, .int .i64 xds, .string xdi, .int .i64 xmh, .int .i64 xmr, .int .i64 xms, .string xmi, .bool true, .slice ia xo.length ic] 29) = W := ⟨_, rfl⟩
    have HAnX : Hid (Below w6.heap.size w6 wa7) := by rw [← hwa7]; exact below_one _ _
    have HS7 : Hid (Blk wa7 nS [.int .i64 zv, .int .i64 xdh, .int .i64 xdr, .int .i64 xds, .string xdi, .int .i64 zmh, .int .i64 zmr, .int .i64 zms, .string zmi, .bool zp, .slice qa zo.length qc] 29) := HS6.out.below HAnX.out HS6.out.lt
    have HV7 : Hid (Blk wa7 nV [.int .i64 yh, .int .i64 yr, .int .i64 ys, .string yi, .int .i64 yv] 31) := HV6.out.below HAnX.out HV6.out.lt
    have HQ7 : Hid (Rdd wa7 w.heap.size nS zo qa) := HQ6.out.below HAnX.out
    have HA7 : Hid (Rdd wa7 w.heap.size nX xo ia) := HA0.out.below HAnX.out
    have HB7 : Hid (Below w.heap.size w wa7) := HB6.out.trans (HAnX.out.mono HB6.out.size)
    have HX7 : Hid (Blk wa7 nX [.int .i64 xv, .int .i64 xdh, .int .i64 xdr, .int .i64 xds, .string xdi, .int .i64 xmh, .int .i64 xmr, .int .i64 xms, .string xmi, .bool true, .slice ia xo.length ic] 29) := by rw [← hwa7, ← hnX]; exact blk_new _ _ _
    clear HAnX HS6 HV6 HB6 HQ6 HA0
    have cS_0_7 := HS7.out.cell 0 rfl
    have cS_1_7 := HS7.out.cell 1 rfl
    have cS_2_7 := HS7.out.cell 2 rfl
    have cS_3_7 := HS7.out.cell 3 rfl
    have cS_4_7 := HS7.out.cell 4 rfl
    have cS_5_7 := HS7.out.cell 5 rfl
    have cS_6_7 := HS7.out.cell 6 rfl
    have cS_7_7 := HS7.out.cell 7 rfl
    have cS_8_7 := HS7.out.cell 8 rfl
    have cS_9_7 := HS7.out.cell 9 rfl
    have cS_10_7 := HS7.out.cell 10 rfl
    have cV_0_7 := HV7.out.cell 0 rfl
    have cV_1_7 := HV7.out.cell 1 rfl
    have cV_2_7 := HV7.out.cell 2 rfl
    have cV_3_7 := HV7.out.cell 3 rfl
    have cV_4_7 := HV7.out.cell 4 rfl
    go_wp2_with fail
    clear hwa7 hnX cS_0_7 cS_1_7 cS_2_7 cS_3_7 cS_4_7 cS_5_7 cS_6_7 cS_7_7 cS_8_7 cS_9_7 cS_10_7 cV_0_7 cV_1_7 cV_2_7 cV_3_7 cV_4_7
    refine (kJ _ HQ7.out.1).mono ?_
    rintro e w8 ⟨ja, jc, rfl, HQ, bb⟩
    clear HQ
    have HS8 : Hid (Blk w8 nS [.int .i64 zv, .int .i64 xdh, .int .i64 xdr, .int .i64 xds, .string xdi, .int .i64 zmh, .int .i64 zmr, .int .i64 zms, .string zmi, .bool zp, .slice qa zo.length qc] 29) := HS7.out.below bb HS7.out.lt
    have HV8 : Hid (Blk w8 nV [.int .i64 yh, .int .i64 yr, .int .i64 ys, .string yi, .int .i64 yv] 31) := HV7.out.below bb HV7.out.lt
    have HX8 : Hid (Blk w8 nX [.int .i64 xv, .int .i64 xdh, .int .i64 xdr, .int .i64 xds, .string xdi, .int .i64 xmh, .int .i64 xmr, .int .i64 xms, .string xmi, .bool true, .slice ia xo.length ic] 29) := HX7.out.below bb HX7.out.lt
    have HQ8 : Hid (Rdd w8 w.heap.size nS zo qa) := HQ7.out.below bb
    have HA8 : Hid (Rdd w8 w.heap.size nX xo ia) := HA7.out.below bb
    have HB8 : Hid (Below w.heap.size w w8) := HB7.out.trans (bb.mono HB7.out.size)
    clear HS7 HV7 HX7 HB7 HQ7 HA7
    clear bb
    clear kJ
    obtain ⟨nJ, hnJ⟩ : ∃ n, w8.heap.size = n := ⟨_, rfl⟩
    have hnJS : nS < nJ := by rw [← hnJ]; exact HS8.out.lt
    have hnJV : nV < nJ := by rw [← hnJ]; exact HV8.out.lt
    have hnJX : nX < nJ := by rw [← hnJ]; exact HX8.out.lt
    obtain ⟨wa9, hwa9⟩ : ∃ W, w8.alloc (.cells #[.int .i64 xv, .int .i64 xdh, .int .i64 xdr, .int .i64 xds, .string xdi, .int .i64 xmh, .int .i64 xmr, .int .i64 xms, .string xmi, .bool true, .slice ja xo.length jc] 29) = W := ⟨_, rfl⟩
    have HAnJ : Hid (Below w8.heap.size w8 wa9) := by rw [← hwa9]; exact below_one _ _
    have HS9 : Hid (Blk wa9 nS [.int .i64 zv, .int .i64 xdh, .int .i64 xdr, .int .i64 xds, .string xdi, .int .i64 zmh, .int .i64 zmr, .int .i64 zms, .string zmi, .bool zp, .slice qa zo.length qc] 29) := HS8.out.below HAnJ.out HS8.out.lt
    have HV9 : Hid (Blk wa9 nV [.int .i64 yh, .int .i64 yr, .int .i64 ys, .string yi, .int .i64 yv] 31) := HV8.out.below HAnJ.out HV8.out.lt
    have HX9 : Hid (Blk wa9 nX [.int .i64 xv, .int .i64 xdh, .int .i64 xdr, .int .i64 xds, .string xdi, .int .i64 xmh, .int .i64 xmr, .int .i64 xms, .string xmi, .bool true, .slice ia xo.length ic] 29) := HX8.out.below HAnJ.out HX8.out.lt
    have HQ9 : Hid (Rdd wa9 w.heap.size nS zo qa) := HQ8.out.below HAnJ.out
    have HA9 : Hid (Rdd wa9 w.heap.size nX xo ia) := HA8.out.below HAnJ.out
    have HB9 : Hid (Below w.heap.size w wa9) := HB8.out.trans (HAnJ.out.mono HB8.out.size)
    have HJ9 : Hid (Blk wa9 nJ [.int .i64 xv, .int .i64 xdh, .int .i64 xdr, .int .i64 xds, .string xdi, .int .i64 xmh, .int .i64 xmr, .int .i64 xms, .string xmi, .bool true, .slice ja xo.length jc] 29) := by rw [← hwa9, ← hnJ]; exact blk_new _ _ _
    clear HAnJ HS8 HV8 HX8 HB8 HQ8 HA8
    have cS_0_9 := HS9.out.cell 0 rfl
    have cS_1_9 := HS9.out.cell 1 rfl
    have cS_2_9 := HS9.out.cell 2 rfl
    have cS_3_9 := HS9.out.cell 3 rfl
    have cS_4_9 := HS9.out.cell 4 rfl
    have cS_5_9 := HS9.out.cell 5 rfl
    have cS_6_9 := HS9.out.cell 6 rfl
    have cS_7_9 := HS9.out.cell 7 rfl
    have cS_8_9 := HS9.out.cell 8 rfl
    have cS_9_9 := HS9.out.cell 9 rfl
    have cS_10_9 := HS9.out.cell 10 rfl
    go_wp2_with fail
    clear hwa9 hnJ cS_0_9 cS_1_9 cS_2_9 cS_3_9 cS_4_9 cS_5_9 cS_6_9 cS_7_9 cS_8_9 cS_9_9 cS_10_9
    refine (draw_may a L cap _ (code_below HL.out HB9.out) hlen).mono ?_
    rintro e w10 ⟨⟨gh, gr, gs, gi⟩, ⟨th, tr, ts, ti, tv⟩, rfl, bb⟩
    have HS10 : Hid (Blk w10 nS [.int .i64 zv, .int .i64 xdh, .int .i64 xdr, .int .i64 xds, .string xdi, .int .i64 zmh, .int .i64 zmr, .int .i64 zms, .string zmi, .bool zp, .slice qa zo.length qc] 29) := HS9.out.below bb HS9.out.lt
    have HV10 : Hid (Blk w10 nV [.int .i64 yh, .int .i64 yr, .int .i64 ys, .string yi, .int .i64 yv] 31) := HV9.out.below bb HV9.out.lt
    have HX10 : Hid (Blk w10 nX [.int .i64 xv, .int .i64 xdh, .int .i64 xdr, .int .i64 xds, .string xdi, .int .i64 xmh, .int .i64 xmr, .int .i64 xms, .string xmi, .bool true, .slice ia xo.length ic] 29) := HX9.out.below bb HX9.out.lt
    have HJ10 : Hid (Blk w10 nJ [.int .i64 xv, .int .i64 xdh, .int .i64 xdr, .int .i64 xds, .string xdi, .int .i64 xmh, .int .i64 xmr, .int .i64 xms, .string xmi, .bool true, .slice ja xo.length jc] 29) := HJ9.out.below bb HJ9.out.lt
    have HQ10 : Hid (Rdd w10 w.heap.size nS zo qa) := HQ9.out.below bb
    have HA10 : Hid (Rdd w10 w.heap.size nX xo ia) := HA9.out.below bb
    have HB10 : Hid (Below w.heap.size w w10) := HB9.out.trans (bb.mono HB9.out.size)
    clear HS9 HV9 HX9 HJ9 HB9 HQ9 HA9
    clear bb
    have kP := fun W => impl_may ⟨gh, gr, gs, gi⟩ ⟨th, tr, ts, ti, tv⟩ W
    have kR := fun W => spec_may ⟨gh, gr, gs, gi⟩ ⟨th, tr, ts, ti, tv⟩ W
    generalize mayS ⟨gh, gr, gs, gi⟩ ⟨th, tr, ts, ti, tv⟩ = t at *
    unfold gV tV at *
    simp only at *
    have htt : (t != t) = false := by simp
    obtain ⟨nG, hnG⟩ : ∃ n, w10.heap.size = n := ⟨_, rfl⟩
    have hnGS : nS < nG := by rw [← hnG]; exact HS10.out.lt
    have hnGV : nV < nG := by rw [← hnG]; exact HV10.out.lt
    have hnGX : nX < nG := by rw [← hnG]; exact HX10.out.lt
    have hnGJ : nJ < nG := by rw [← hnG]; exact HJ10.out.lt
    obtain ⟨wa11, hwa11⟩ : ∃ W, w10.alloc (.cells #[.int .i64 0, .int .i64 0, .int .i64 0, .string ⟨#[]⟩] 26) = W := ⟨_, rfl⟩
    have HAnG : Hid (Below w10.heap.size w10 wa11) := by rw [← hwa11]; exact below_one _ _
    have HS11 : Hid (Blk wa11 nS [.int .i64 zv, .int .i64 xdh, .int .i64 xdr, .int .i64 xds, .string xdi, .int .i64 zmh, .int .i64 zmr, .int .i64 zms, .string zmi, .bool zp, .slice qa zo.length qc] 29) := HS10.out.below HAnG.out HS10.out.lt
    have HV11 : Hid (Blk wa11 nV [.int .i64 yh, .int .i64 yr, .int .i64 ys, .string yi, .int .i64 yv] 31) := HV10.out.below HAnG.out HV10.out.lt
    have HX11 : Hid (Blk wa11 nX [.int .i64 xv, .int .i64 xdh, .int .i64 xdr, .int .i64 xds, .string xdi, .int .i64 xmh, .int .i64 xmr, .int .i64 xms, .string xmi, .bool true, .slice ia xo.length ic] 29) := HX10.out.below HAnG.out HX10.out.lt
    have HJ11 : Hid (Blk wa11 nJ [.int .i64 xv, .int .i64 xdh, .int .i64 xdr, .int .i64 xds, .string xdi, .int .i64 xmh, .int .i64 xmr, .int .i64 xms, .string xmi, .bool true, .slice ja xo.length jc] 29) := HJ10.out.below HAnG.out HJ10.out.lt
    have HQ11 : Hid (Rdd wa11 w.heap.size nS zo qa) := HQ10.out.below HAnG.out
    have HA11 : Hid (Rdd wa11 w.heap.size nX xo ia) := HA10.out.below HAnG.out
    have HB11 : Hid (Below w.heap.size w wa11) := HB10.out.trans (HAnG.out.mono HB10.out.size)
    have HG11 : Hid (Blk wa11 nG [.int .i64 0, .int .i64 0, .int .i64 0, .string ⟨#[]⟩] 26) := by rw [← hwa11, ← hnG]; exact blk_new _ _ _
    clear HAnG HS10 HV10 HX10 HJ10 HB10 HQ10 HA10
    obtain ⟨nT, hnT⟩ : ∃ n, wa11.heap.size = n := ⟨_, rfl⟩
    have hnTS : nS < nT := by rw [← hnT]; exact HS11.out.lt
    have hnTV : nV < nT := by rw [← hnT]; exact HV11.out.lt
    have hnTX : nX < nT := by rw [← hnT]; exact HX11.out.lt
    have hnTJ : nJ < nT := by rw [← hnT]; exact HJ11.out.lt
    have hnTG : nG < nT := by rw [← hnT]; exact HG11.out.lt
    obtain ⟨wa12, hwa12⟩ : ∃ W, wa11.alloc (.cells #[.int .i64 0, .int .i64 0, .int .i64 0, .string ⟨#[]⟩, .int .i64 0] 31) = W := ⟨_, rfl⟩
    have HAnT : Hid (Below wa11.heap.size wa11 wa12) := by rw [← hwa12]; exact below_one _ _
    have HS12 : Hid (Blk wa12 nS [.int .i64 zv, .int .i64 xdh, .int .i64 xdr, .int .i64 xds, .string xdi, .int .i64 zmh, .int .i64 zmr, .int .i64 zms, .string zmi, .bool zp, .slice qa zo.length qc] 29) := HS11.out.below HAnT.out HS11.out.lt
    have HV12 : Hid (Blk wa12 nV [.int .i64 yh, .int .i64 yr, .int .i64 ys, .string yi, .int .i64 yv] 31) := HV11.out.below HAnT.out HV11.out.lt
    have HX12 : Hid (Blk wa12 nX [.int .i64 xv, .int .i64 xdh, .int .i64 xdr, .int .i64 xds, .string xdi, .int .i64 xmh, .int .i64 xmr, .int .i64 xms, .string xmi, .bool true, .slice ia xo.length ic] 29) := HX11.out.below HAnT.out HX11.out.lt
    have HJ12 : Hid (Blk wa12 nJ [.int .i64 xv, .int .i64 xdh, .int .i64 xdr, .int .i64 xds, .string xdi, .int .i64 xmh, .int .i64 xmr, .int .i64 xms, .string xmi, .bool true, .slice ja xo.length jc] 29) := HJ11.out.below HAnT.out HJ11.out.lt
    have HG12 : Hid (Blk wa12 nG [.int .i64 0, .int .i64 0, .int .i64 0, .string ⟨#[]⟩] 26) := HG11.out.below HAnT.out HG11.out.lt
    have HQ12 : Hid (Rdd wa12 w.heap.size nS zo qa) := HQ11.out.below HAnT.out
    have HA12 : Hid (Rdd wa12 w.heap.size nX xo ia) := HA11.out.below HAnT.out
    have HB12 : Hid (Below w.heap.size w wa12) := HB11.out.trans (HAnT.out.mono HB11.out.size)
    have HT12 : Hid (Blk wa12 nT [.int .i64 0, .int .i64 0, .int .i64 0, .string ⟨#[]⟩, .int .i64 0] 31) := by rw [← hwa12, ← hnT]; exact blk_new _ _ _
    clear HAnT HS11 HV11 HX11 HJ11 HG11 HB11 HQ11 HA11
    have cG_0_12 := HG12.out.cell 0 rfl
    have cG_1_12 := HG12.out.cell 1 rfl
    have cG_2_12 := HG12.out.cell 2 rfl
    have cG_3_12 := HG12.out.cell 3 rfl
    have cT_0_12 := HT12.out.cell 0 rfl
    have cT_1_12 := HT12.out.cell 1 rfl
    have cT_2_12 := HT12.out.cell 2 rfl
    have cT_3_12 := HT12.out.cell 3 rfl
    have cT_4_12 := HT12.out.cell 4 rfl
    have zG_12 := fun j => HG12.out.frozen j
    have zT_12 := fun j => HT12.out.frozen j
    have KG13 : Hid (wa12.grownBy ((((wa12.setCell ⟨nG, 0, none⟩ (.int .i64 gh)).setCell ⟨nG, 1, none⟩ (.int .i64 gr)).setCell ⟨nG, 2, none⟩ (.int .i64 gs)).setCell ⟨nG, 3, none⟩ (.string gi)) (some nG)) := grown_set (grown_set (grown_set (grown_set (grown_refl _ _) _) _) _) _
    have HS13 : Hid (Blk ((((wa12.setCell ⟨nG, 0, none⟩ (.int .i64 gh)).setCell ⟨nG, 1, none⟩ (.int .i64 gr)).setCell ⟨nG, 2, none⟩ (.int .i64 gs)).setCell ⟨nG, 3, none⟩ (.string gi)) nS [.int .i64 zv, .int .i64 xdh, .int .i64 xdr, .int .i64 xds, .string xdi, .int .i64 zmh, .int .i64 zmr, .int .i64 zms, .string zmi, .bool zp, .slice qa zo.length qc] 29) := HS12.out.grown KG13.out (fun e => by injection e with e; omega)
    have HV13 : Hid (Blk ((((wa12.setCell ⟨nG, 0, none⟩ (.int .i64 gh)).setCell ⟨nG, 1, none⟩ (.int .i64 gr)).setCell ⟨nG, 2, none⟩ (.int .i64 gs)).setCell ⟨nG, 3, none⟩ (.string gi)) nV [.int .i64 yh, .int .i64 yr, .int .i64 ys, .string yi, .int .i64 yv] 31) := HV12.out.grown KG13.out (fun e => by injection e with e; omega)
    have HX13 : Hid (Blk ((((wa12.setCell ⟨nG, 0, none⟩ (.int .i64 gh)).setCell ⟨nG, 1, none⟩ (.int .i64 gr)).setCell ⟨nG, 2, none⟩ (.int .i64 gs)).setCell ⟨nG, 3, none⟩ (.string gi)) nX [.int .i64 xv, .int .i64 xdh, .int .i64 xdr, .int .i64 xds, .string xdi, .int .i64 xmh, .int .i64 xmr, .int .i64 xms, .string xmi, .bool true, .slice ia xo.length ic] 29) := HX12.out.grown KG13.out (fun e => by injection e with e; omega)
    have HJ13 : Hid (Blk ((((wa12.setCell ⟨nG, 0, none⟩ (.int .i64 gh)).setCell ⟨nG, 1, none⟩ (.int .i64 gr)).setCell ⟨nG, 2, none⟩ (.int .i64 gs)).setCell ⟨nG, 3, none⟩ (.string gi)) nJ [.int .i64 xv, .int .i64 xdh, .int .i64 xdr, .int .i64 xds, .string xdi, .int .i64 xmh, .int .i64 xmr, .int .i64 xms, .string xmi, .bool true, .slice ja xo.length jc] 29) := HJ12.out.grown KG13.out (fun e => by injection e with e; omega)
    have HG13 : Hid (Blk ((((wa12.setCell ⟨nG, 0, none⟩ (.int .i64 gh)).setCell ⟨nG, 1, none⟩ (.int .i64 gr)).setCell ⟨nG, 2, none⟩ (.int .i64 gs)).setCell ⟨nG, 3, none⟩ (.string gi)) nG [.int .i64 gh, .int .i64 gr, .int .i64 gs, .string gi] 26) := ((((HG12.out.set 0 (.int .i64 gh)).set 1 (.int .i64 gr)).set 2 (.int .i64 gs)).set 3 (.string gi))
    have HT13 : Hid (Blk ((((wa12.setCell ⟨nG, 0, none⟩ (.int .i64 gh)).setCell ⟨nG, 1, none⟩ (.int .i64 gr)).setCell ⟨nG, 2, none⟩ (.int .i64 gs)).setCell ⟨nG, 3, none⟩ (.string gi)) nT [.int .i64 0, .int .i64 0, .int .i64 0, .string ⟨#[]⟩, .int .i64 0] 31) := HT12.out.grown KG13.out (fun e => by injection e with e; omega)
    have HQ13 : Hid (Rdd ((((wa12.setCell ⟨nG, 0, none⟩ (.int .i64 gh)).setCell ⟨nG, 1, none⟩ (.int .i64 gr)).setCell ⟨nG, 2, none⟩ (.int .i64 gs)).setCell ⟨nG, 3, none⟩ (.string gi)) w.heap.size nS zo qa) := HQ12.out.grown KG13.out (fun j e => by injection e with e; omega)
    have HA13 : Hid (Rdd ((((wa12.setCell ⟨nG, 0, none⟩ (.int .i64 gh)).setCell ⟨nG, 1, none⟩ (.int .i64 gr)).setCell ⟨nG, 2, none⟩ (.int .i64 gs)).setCell ⟨nG, 3, none⟩ (.string gi)) w.heap.size nX xo ia) := HA12.out.grown KG13.out (fun j e => by injection e with e; omega)
    have HB13 : Hid (Below w.heap.size w ((((wa12.setCell ⟨nG, 0, none⟩ (.int .i64 gh)).setCell ⟨nG, 1, none⟩ (.int .i64 gr)).setCell ⟨nG, 2, none⟩ (.int .i64 gs)).setCell ⟨nG, 3, none⟩ (.string gi))) := HB12.out.grown KG13.out HB12.out.size (fun j e => by injection e with e; omega)
    have cT_0_13 := HT13.out.cell 0 rfl
    have cT_1_13 := HT13.out.cell 1 rfl
    have cT_2_13 := HT13.out.cell 2 rfl
    have cT_3_13 := HT13.out.cell 3 rfl
    have cT_4_13 := HT13.out.cell 4 rfl
    have zT_13 := fun j => HT13.out.frozen j
    have KG14 : Hid (((((wa12.setCell ⟨nG, 0, none⟩ (.int .i64 gh)).setCell ⟨nG, 1, none⟩ (.int .i64 gr)).setCell ⟨nG, 2, none⟩ (.int .i64 gs)).setCell ⟨nG, 3, none⟩ (.string gi)).grownBy (((((((((wa12.setCell ⟨nG, 0, none⟩ (.int .i64 gh)).setCell ⟨nG, 1, none⟩ (.int .i64 gr)).setCell ⟨nG, 2, none⟩ (.int .i64 gs)).setCell ⟨nG, 3, none⟩ (.string gi)).setCell ⟨nT, 0, none⟩ (.int .i64 th)).setCell ⟨nT, 1, none⟩ (.int .i64 tr)).setCell ⟨nT, 2, none⟩ (.int .i64 ts)).setCell ⟨nT, 3, none⟩ (.string ti)).setCell ⟨nT, 4, none⟩ (.int .i64 tv)) (some nT)) := grown_set (grown_set (grown_set (grown_set (grown_set (grown_refl _ _) _) _) _) _) _
    have HS14 : Hid (Blk (((((((((wa12.setCell ⟨nG, 0, none⟩ (.int .i64 gh)).setCell ⟨nG, 1, none⟩ (.int .i64 gr)).setCell ⟨nG, 2, none⟩ (.int .i64 gs)).setCell ⟨nG, 3, none⟩ (.string gi)).setCell ⟨nT, 0, none⟩ (.int .i64 th)).setCell ⟨nT, 1, none⟩ (.int .i64 tr)).setCell ⟨nT, 2, none⟩ (.int .i64 ts)).setCell ⟨nT, 3, none⟩ (.string ti)).setCell ⟨nT, 4, none⟩ (.int .i64 tv)) nS [.int .i64 zv, .int .i64 xdh, .int .i64 xdr, .int .i64 xds, .string xdi, .int .i64 zmh, .int .i64 zmr, .int .i64 zms, .string zmi, .bool zp, .slice qa zo.length qc] 29) := HS13.out.grown KG14.out (fun e => by injection e with e; omega)
    have HV14 : Hid (Blk (((((((((wa12.setCell ⟨nG, 0, none⟩ (.int .i64 gh)).setCell ⟨nG, 1, none⟩ (.int .i64 gr)).setCell ⟨nG, 2, none⟩ (.int .i64 gs)).setCell ⟨nG, 3, none⟩ (.string gi)).setCell ⟨nT, 0, none⟩ (.int .i64 th)).setCell ⟨nT, 1, none⟩ (.int .i64 tr)).setCell ⟨nT, 2, none⟩ (.int .i64 ts)).setCell ⟨nT, 3, none⟩ (.string ti)).setCell ⟨nT, 4, none⟩ (.int .i64 tv)) nV [.int .i64 yh, .int .i64 yr, .int .i64 ys, .string yi, .int .i64 yv] 31) := HV13.out.grown KG14.out (fun e => by injection e with e; omega)
    have HX14 : Hid (Blk (((((((((wa12.setCell ⟨nG, 0, none⟩ (.int .i64 gh)).setCell ⟨nG, 1, none⟩ (.int .i64 gr)).setCell ⟨nG, 2, none⟩ (.int .i64 gs)).setCell ⟨nG, 3, none⟩ (.string gi)).setCell ⟨nT, 0, none⟩ (.int .i64 th)).setCell ⟨nT, 1, none⟩ (.int .i64 tr)).setCell ⟨nT, 2, none⟩ (.int .i64 ts)).setCell ⟨nT, 3, none⟩ (.string ti)).setCell ⟨nT, 4, none⟩ (.int .i64 tv)) nX [.int .i64 xv, .int .i64 xdh, .int .i64 xdr, .int .i64 xds, .string xdi, .int .i64 xmh, .int .i64 xmr, .int .i64 xms, .string xmi, .bool true, .slice ia xo.length ic] 29) := HX13.out.grown KG14.out (fun e => by injection e with e; omega)
    have HJ14 : Hid (Blk (((((((((wa12.setCell ⟨nG, 0, none⟩ (.int .i64 gh)).setCell ⟨nG, 1, none⟩ (.int .i64 gr)).setCell ⟨nG, 2, none⟩ (.int .i64 gs)).setCell ⟨nG, 3, none⟩ (.string gi)).setCell ⟨nT, 0, none⟩ (.int .i64 th)).setCell ⟨nT, 1, none⟩ (.int .i64 tr)).setCell ⟨nT, 2, none⟩ (.int .i64 ts)).setCell ⟨nT, 3, none⟩ (.string ti)).setCell ⟨nT, 4, none⟩ (.int .i64 tv)) nJ [.int .i64 xv, .int .i64 xdh, .int .i64 xdr, .int .i64 xds, .string xdi, .int .i64 xmh, .int .i64 xmr, .int .i64 xms, .string xmi, .bool true, .slice ja xo.length jc] 29) := HJ13.out.grown KG14.out (fun e => by injection e with e; omega)
    have HG14 : Hid (Blk (((((((((wa12.setCell ⟨nG, 0, none⟩ (.int .i64 gh)).setCell ⟨nG, 1, none⟩ (.int .i64 gr)).setCell ⟨nG, 2, none⟩ (.int .i64 gs)).setCell ⟨nG, 3, none⟩ (.string gi)).setCell ⟨nT, 0, none⟩ (.int .i64 th)).setCell ⟨nT, 1, none⟩ (.int .i64 tr)).setCell ⟨nT, 2, none⟩ (.int .i64 ts)).setCell ⟨nT, 3, none⟩ (.string ti)).setCell ⟨nT, 4, none⟩ (.int .i64 tv)) nG [.int .i64 gh, .int .i64 gr, .int .i64 gs, .string gi] 26) := HG13.out.grown KG14.out (fun e => by injection e with e; omega)
    have HT14 : Hid (Blk (((((((((wa12.setCell ⟨nG, 0, none⟩ (.int .i64 gh)).setCell ⟨nG, 1, none⟩ (.int .i64 gr)).setCell ⟨nG, 2, none⟩ (.int .i64 gs)).setCell ⟨nG, 3, none⟩ (.string gi)).setCell ⟨nT, 0, none⟩ (.int .i64 th)).setCell ⟨nT, 1, none⟩ (.int .i64 tr)).setCell ⟨nT, 2, none⟩ (.int .i64 ts)).setCell ⟨nT, 3, none⟩ (.string ti)).setCell ⟨nT, 4, none⟩ (.int .i64 tv)) nT [.int .i64 th, .int .i64 tr, .int .i64 ts, .string ti, .int .i64 tv] 31) := (((((HT13.out.set 0 (.int .i64 th)).set 1 (.int .i64 tr)).set 2 (.int .i64 ts)).set 3 (.string ti)).set 4 (.int .i64 tv))
    have HQ14 : Hid (Rdd (((((((((wa12.setCell ⟨nG, 0, none⟩ (.int .i64 gh)).setCell ⟨nG, 1, none⟩ (.int .i64 gr)).setCell ⟨nG, 2, none⟩ (.int .i64 gs)).setCell ⟨nG, 3, none⟩ (.string gi)).setCell ⟨nT, 0, none⟩ (.int .i64 th)).setCell ⟨nT, 1, none⟩ (.int .i64 tr)).setCell ⟨nT, 2, none⟩ (.int .i64 ts)).setCell ⟨nT, 3, none⟩ (.string ti)).setCell ⟨nT, 4, none⟩ (.int .i64 tv)) w.heap.size nS zo qa) := HQ13.out.grown KG14.out (fun j e => by injection e with e; omega)
    have HA14 : Hid (Rdd (((((((((wa12.setCell ⟨nG, 0, none⟩ (.int .i64 gh)).setCell ⟨nG, 1, none⟩ (.int .i64 gr)).setCell ⟨nG, 2, none⟩ (.int .i64 gs)).setCell ⟨nG, 3, none⟩ (.string gi)).setCell ⟨nT, 0, none⟩ (.int .i64 th)).setCell ⟨nT, 1, none⟩ (.int .i64 tr)).setCell ⟨nT, 2, none⟩ (.int .i64 ts)).setCell ⟨nT, 3, none⟩ (.string ti)).setCell ⟨nT, 4, none⟩ (.int .i64 tv)) w.heap.size nX xo ia) := HA13.out.grown KG14.out (fun j e => by injection e with e; omega)
    have HB14 : Hid (Below w.heap.size w (((((((((wa12.setCell ⟨nG, 0, none⟩ (.int .i64 gh)).setCell ⟨nG, 1, none⟩ (.int .i64 gr)).setCell ⟨nG, 2, none⟩ (.int .i64 gs)).setCell ⟨nG, 3, none⟩ (.string gi)).setCell ⟨nT, 0, none⟩ (.int .i64 th)).setCell ⟨nT, 1, none⟩ (.int .i64 tr)).setCell ⟨nT, 2, none⟩ (.int .i64 ts)).setCell ⟨nT, 3, none⟩ (.string ti)).setCell ⟨nT, 4, none⟩ (.int .i64 tv))) := HB13.out.grown KG14.out HB13.out.size (fun j e => by injection e with e; omega)
    go_upto_region 7 with fail
    clear hwa11 hnG hwa12 hnT cG_0_12 cG_1_12 cG_2_12 cG_3_12 cT_0_12 cT_1_12 cT_2_12 cT_3_12 cT_4_12 zG_12 zT_12 cT_0_13 cT_1_13 cT_2_13 cT_3_13 cT_4_13 zT_13
    clear HS12 HV12 HX12 HJ12 HG12 HT12 HB12 HQ12 HA12 KG13 HS13 HV13 HX13 HJ13 HG13 HT13 HB13 HQ13 HA13 KG14
    generalize (((((((((wa12.setCell ⟨nG, 0, none⟩ (.int .i64 gh)).setCell ⟨nG, 1, none⟩ (.int .i64 gr)).setCell ⟨nG, 2, none⟩ (.int .i64 gs)).setCell ⟨nG, 3, none⟩ (.string gi)).setCell ⟨nT, 0, none⟩ (.int .i64 th)).setCell ⟨nT, 1, none⟩ (.int .i64 tr)).setCell ⟨nT, 2, none⟩ (.int .i64 ts)).setCell ⟨nT, 3, none⟩ (.string ti)).setCell ⟨nT, 4, none⟩ (.int .i64 tv)) = w13 at *
    have hcc : ((0 : Int) != 0) = false := by simp
    have cG_0_14 := HG14.out.cell 0 rfl
    have cG_1_14 := HG14.out.cell 1 rfl
    have cG_2_14 := HG14.out.cell 2 rfl
    have cG_3_14 := HG14.out.cell 3 rfl
    have cT_0_14 := HT14.out.cell 0 rfl
    have cT_1_14 := HT14.out.cell 1 rfl
    have cT_2_14 := HT14.out.cell 2 rfl
    have cT_3_14 := HT14.out.cell 3 rfl
    have cT_4_14 := HT14.out.cell 4 rfl
    go_wp2_with fail
    clear cG_0_14 cG_1_14 cG_2_14 cG_3_14 cT_0_14 cT_1_14 cT_2_14 cT_3_14 cT_4_14
    have HS15 : Hid (Blk w13.drew nS [.int .i64 zv, .int .i64 xdh, .int .i64 xdr, .int .i64 xds, .string xdi, .int .i64 zmh, .int .i64 zmr, .int .i64 zms, .string zmi, .bool zp, .slice qa zo.length qc] 29) := HS14.out.below (Below.refl _ _).drew HS14.out.lt
    have HV15 : Hid (Blk w13.drew nV [.int .i64 yh, .int .i64 yr, .int .i64 ys, .string yi, .int .i64 yv] 31) := HV14.out.below (Below.refl _ _).drew HV14.out.lt
    have HX15 : Hid (Blk w13.drew nX [.int .i64 xv, .int .i64 xdh, .int .i64 xdr, .int .i64 xds, .string xdi, .int .i64 xmh, .int .i64 xmr, .int .i64 xms, .string xmi, .bool true, .slice ia xo.length ic] 29) := HX14.out.below (Below.refl _ _).drew HX14.out.lt
    have HJ15 : Hid (Blk w13.drew nJ [.int .i64 xv, .int .i64 xdh, .int .i64 xdr, .int .i64 xds, .string xdi, .int .i64 xmh, .int .i64 xmr, .int .i64 xms, .string xmi, .bool true, .slice ja xo.length jc] 29) := HJ14.out.below (Below.refl _ _).drew HJ14.out.lt
    have HG15 : Hid (Blk w13.drew nG [.int .i64 gh, .int .i64 gr, .int .i64 gs, .string gi] 26) := HG14.out.below (Below.refl _ _).drew HG14.out.lt
    have HT15 : Hid (Blk w13.drew nT [.int .i64 th, .int .i64 tr, .int .i64 ts, .string ti, .int .i64 tv] 31) := HT14.out.below (Below.refl _ _).drew HT14.out.lt
    have HQ15 : Hid (Rdd w13.drew w.heap.size nS zo qa) := HQ14.out.below (Below.refl _ _).drew
    have HA15 : Hid (Rdd w13.drew w.heap.size nX xo ia) := HA14.out.below (Below.refl _ _).drew
    have HB15 : Hid (Below w.heap.size w w13.drew) := HB14.out.trans (((Below.refl _ _).drew).mono HB14.out.size)
    clear HS14 HV14 HX14 HJ14 HG14 HT14 HB14 HQ14 HA14
    go_region_held3 (fun W : World => W.cell? ⟨nS, 0, none⟩ = some (.int .i64 zv) ∧ W.cell? ⟨nS, 1, none⟩ = some (.int .i64 xdh) ∧ W.cell? ⟨nS, 2, none⟩ = some (.int .i64 xdr) ∧ W.cell? ⟨nS, 3, none⟩ = some (.int .i64 xds) ∧ W.cell? ⟨nS, 4, none⟩ = some (.string xdi) ∧ W.cell? ⟨nS, 5, none⟩ = some (.int .i64 zmh) ∧ W.cell? ⟨nS, 6, none⟩ = some (.int .i64 zmr) ∧ W.cell? ⟨nS, 7, none⟩ = some (.int .i64 zms) ∧ W.cell? ⟨nS, 8, none⟩ = some (.string zmi) ∧ W.cell? ⟨nS, 9, none⟩ = some (.bool zp) ∧ W.cell? ⟨nS, 10, none⟩ = some (.slice qa zo.length qc) ∧ W.cell? ⟨nV, 0, none⟩ = some (.int .i64 yh) ∧ W.cell? ⟨nV, 1, none⟩ = some (.int .i64 yr) ∧ W.cell? ⟨nV, 2, none⟩ = some (.int .i64 ys) ∧ W.cell? ⟨nV, 3, none⟩ = some (.string yi) ∧ W.cell? ⟨nV, 4, none⟩ = some (.int .i64 yv) ∧ W.cell? ⟨nX, 0, none⟩ = some (.int .i64 xv) ∧ W.cell? ⟨nX, 1, none⟩ = some (.int .i64 xdh) ∧ W.cell? ⟨nX, 2, none⟩ = some (.int .i64 xdr) ∧ W.cell? ⟨nX, 3, none⟩ = some (.int .i64 xds) ∧ W.cell? ⟨nX, 4, none⟩ = some (.string xdi) ∧ W.cell? ⟨nX, 5, none⟩ = some (.int .i64 xmh) ∧ W.cell? ⟨nX, 6, none⟩ = some (.int .i64 xmr) ∧ W.cell? ⟨nX, 7, none⟩ = some (.int .i64 xms) ∧ W.cell? ⟨nX, 8, none⟩ = some (.string xmi) ∧ W.cell? ⟨nX, 9, none⟩ = some (.bool true) ∧ W.cell? ⟨nX, 10, none⟩ = some (.slice ia xo.length ic) ∧ W.cell? ⟨nJ, 0, none⟩ = some (.int .i64 xv) ∧ W.cell? ⟨nJ, 1, none⟩ = some (.int .i64 xdh) ∧ W.cell? ⟨nJ, 2, none⟩ = some (.int .i64 xdr) ∧ W.cell? ⟨nJ, 3, none⟩ = some (.int .i64 xds) ∧ W.cell? ⟨nJ, 4, none⟩ = some (.string xdi) ∧ W.cell? ⟨nJ, 5, none⟩ = some (.int .i64 xmh) ∧ W.cell? ⟨nJ, 6, none⟩ = some (.int .i64 xmr) ∧ W.cell? ⟨nJ, 7, none⟩ = some (.int .i64 xms) ∧ W.cell? ⟨nJ, 8, none⟩ = some (.string xmi) ∧ W.cell? ⟨nJ, 9, none⟩ = some (.bool true) ∧ W.cell? ⟨nJ, 10, none⟩ = some (.slice ja xo.length jc) ∧ W.cell? ⟨nG, 0, none⟩ = some (.int .i64 gh) ∧ W.cell? ⟨nG, 1, none⟩ = some (.int .i64 gr) ∧ W.cell? ⟨nG, 2, none⟩ = some (.int .i64 gs) ∧ W.cell? ⟨nG, 3, none⟩ = some (.string gi) ∧ W.cell? ⟨nT, 0, none⟩ = some (.int .i64 th) ∧ W.cell? ⟨nT, 1, none⟩ = some (.int .i64 tr) ∧ W.cell? ⟨nT, 2, none⟩ = some (.int .i64 ts) ∧ W.cell? ⟨nT, 3, none⟩ = some (.string ti) ∧ W.cell? ⟨nT, 4, none⟩ = some (.int .i64 tv)) (first | assumption | exact ⟨HS17.out.cell 0 rfl, HS17.out.cell 1 rfl, HS17.out.cell 2 rfl, HS17.out.cell 3 rfl, HS17.out.cell 4 rfl, HS17.out.cell 5 rfl, HS17.out.cell 6 rfl, HS17.out.cell 7 rfl, HS17.out.cell 8 rfl, HS17.out.cell 9 rfl, HS17.out.cell 10 rfl, HV17.out.cell 0 rfl, HV17.out.cell 1 rfl, HV17.out.cell 2 rfl, HV17.out.cell 3 rfl, HV17.out.cell 4 rfl, HX17.out.cell 0 rfl, HX17.out.cell 1 rfl, HX17.out.cell 2 rfl, HX17.out.cell 3 rfl, HX17.out.cell 4 rfl, HX17.out.cell 5 rfl, HX17.out.cell 6 rfl, HX17.out.cell 7 rfl, HX17.out.cell 8 rfl, HX17.out.cell 9 rfl, HX17.out.cell 10 rfl, HJ17.out.cell 0 rfl, HJ17.out.cell 1 rfl, HJ17.out.cell 2 rfl, HJ17.out.cell 3 rfl, HJ17.out.cell 4 rfl, HJ17.out.cell 5 rfl, HJ17.out.cell 6 rfl, HJ17.out.cell 7 rfl, HJ17.out.cell 8 rfl, HJ17.out.cell 9 rfl, HJ17.out.cell 10 rfl, HG17.out.cell 0 rfl, HG17.out.cell 1 rfl, HG17.out.cell 2 rfl, HG17.out.cell 3 rfl, HT17.out.cell 0 rfl, HT17.out.cell 1 rfl, HT17.out.cell 2 rfl, HT17.out.cell 3 rfl, HT17.out.cell 4 rfl⟩ | exact ⟨HS16.out.cell 0 rfl, HS16.out.cell 1 rfl, HS16.out.cell 2 rfl, HS16.out.cell 3 rfl, HS16.out.cell 4 rfl, HS16.out.cell 5 rfl, HS16.out.cell 6 rfl, HS16.out.cell 7 rfl, HS16.out.cell 8 rfl, HS16.out.cell 9 rfl, HS16.out.cell 10 rfl, HV16.out.cell 0 rfl, HV16.out.cell 1 rfl, HV16.out.cell 2 rfl, HV16.out.cell 3 rfl, HV16.out.cell 4 rfl, HX16.out.cell 0 rfl, HX16.out.cell 1 rfl, HX16.out.cell 2 rfl, HX16.out.cell 3 rfl, HX16.out.cell 4 rfl, HX16.out.cell 5 rfl, HX16.out.cell 6 rfl, HX16.out.cell 7 rfl, HX16.out.cell 8 rfl, HX16.out.cell 9 rfl, HX16.out.cell 10 rfl, HJ16.out.cell 0 rfl, HJ16.out.cell 1 rfl, HJ16.out.cell 2 rfl, HJ16.out.cell 3 rfl, HJ16.out.cell 4 rfl, HJ16.out.cell 5 rfl, HJ16.out.cell 6 rfl, HJ16.out.cell 7 rfl, HJ16.out.cell 8 rfl, HJ16.out.cell 9 rfl, HJ16.out.cell 10 rfl, HG16.out.cell 0 rfl, HG16.out.cell 1 rfl, HG16.out.cell 2 rfl, HG16.out.cell 3 rfl, HT16.out.cell 0 rfl, HT16.out.cell 1 rfl, HT16.out.cell 2 rfl, HT16.out.cell 3 rfl, HT16.out.cell 4 rfl⟩ | exact ⟨HS15.out.cell 0 rfl, HS15.out.cell 1 rfl, HS15.out.cell 2 rfl, HS15.out.cell 3 rfl, HS15.out.cell 4 rfl, HS15.out.cell 5 rfl, HS15.out.cell 6 rfl, HS15.out.cell 7 rfl, HS15.out.cell 8 rfl, HS15.out.cell 9 rfl, HS15.out.cell 10 rfl, HV15.out.cell 0 rfl, HV15.out.cell 1 rfl, HV15.out.cell 2 rfl, HV15.out.cell 3 rfl, HV15.out.cell 4 rfl, HX15.out.cell 0 rfl, HX15.out.cell 1 rfl, HX15.out.cell 2 rfl, HX15.out.cell 3 rfl, HX15.out.cell 4 rfl, HX15.out.cell 5 rfl, HX15.out.cell 6 rfl, HX15.out.cell 7 rfl, HX15.out.cell 8 rfl, HX15.out.cell 9 rfl, HX15.out.cell 10 rfl, HJ15.out.cell 0 rfl, HJ15.out.cell 1 rfl, HJ15.out.cell 2 rfl, HJ15.out.cell 3 rfl, HJ15.out.cell 4 rfl, HJ15.out.cell 5 rfl, HJ15.out.cell 6 rfl, HJ15.out.cell 7 rfl, HJ15.out.cell 8 rfl, HJ15.out.cell 9 rfl, HJ15.out.cell 10 rfl, HG15.out.cell 0 rfl, HG15.out.cell 1 rfl, HG15.out.cell 2 rfl, HG15.out.cell 3 rfl, HT15.out.cell 0 rfl, HT15.out.cell 1 rfl, HT15.out.cell 2 rfl, HT15.out.cell 3 rfl, HT15.out.cell 4 rfl⟩) (first | (go_at_call 21; refine (kP _).mono ?_; rintro e w14 ⟨rfl, bb14⟩; have HS16 : Hid (Blk w14 nS [.int .i64 zv, .int .i64 xdh, .int .i64 xdr, .int .i64 xds, .string xdi, .int .i64 zmh, .int .i64 zmr, .int .i64 zms, .string zmi, .bool zp, .slice qa zo.length qc] 29) := HS15.out.below bb14 HS15.out.lt; have HV16 : Hid (Blk w14 nV [.int .i64 yh, .int .i64 yr, .int .i64 ys, .string yi, .int .i64 yv] 31) := HV15.out.below bb14 HV15.out.lt; have HX16 : Hid (Blk w14 nX [.int .i64 xv, .int .i64 xdh, .int .i64 xdr, .int .i64 xds, .string xdi, .int .i64 xmh, .int .i64 xmr, .int .i64 xms, .string xmi, .bool true, .slice ia xo.length ic] 29) := HX15.out.below bb14 HX15.out.lt; have HJ16 : Hid (Blk w14 nJ [.int .i64 xv, .int .i64 xdh, .int .i64 xdr, .int .i64 xds, .string xdi, .int .i64 xmh, .int .i64 xmr, .int .i64 xms, .string xmi, .bool true, .slice ja xo.length jc] 29) := HJ15.out.below bb14 HJ15.out.lt; have HG16 : Hid (Blk w14 nG [.int .i64 gh, .int .i64 gr, .int .i64 gs, .string gi] 26) := HG15.out.below bb14 HG15.out.lt; have HT16 : Hid (Blk w14 nT [.int .i64 th, .int .i64 tr, .int .i64 ts, .string ti, .int .i64 tv] 31) := HT15.out.below bb14 HT15.out.lt; have HQ16 : Hid (Rdd w14 w.heap.size nS zo qa) := HQ15.out.below bb14; have HA16 : Hid (Rdd w14 w.heap.size nX xo ia) := HA15.out.below bb14; have HB16 : Hid (Below w.heap.size w w14) := HB15.out.trans (bb14.mono HB15.out.size)) | (go_at_call 22; refine (kR _).mono ?_; rintro e w15 ⟨rfl, bb15⟩; have HS17 : Hid (Blk w15 nS [.int .i64 zv, .int .i64 xdh, .int .i64 xdr, .int .i64 xds, .string xdi, .int .i64 zmh, .int .i64 zmr, .int .i64 zms, .string zmi, .bool zp, .slice qa zo.length qc] 29) := HS16.out.below bb15 HS16.out.lt; have HV17 : Hid (Blk w15 nV [.int .i64 yh, .int .i64 yr, .int .i64 ys, .string yi, .int .i64 yv] 31) := HV16.out.below bb15 HV16.out.lt; have HX17 : Hid (Blk w15 nX [.int .i64 xv, .int .i64 xdh, .int .i64 xdr, .int .i64 xds, .string xdi, .int .i64 xmh, .int .i64 xmr, .int .i64 xms, .string xmi, .bool true, .slice ia xo.length ic] 29) := HX16.out.below bb15 HX16.out.lt; have HJ17 : Hid (Blk w15 nJ [.int .i64 xv, .int .i64 xdh, .int .i64 xdr, .int .i64 xds, .string xdi, .int .i64 xmh, .int .i64 xmr, .int .i64 xms, .string xmi, .bool true, .slice ja xo.length jc] 29) := HJ16.out.below bb15 HJ16.out.lt; have HG17 : Hid (Blk w15 nG [.int .i64 gh, .int .i64 gr, .int .i64 gs, .string gi] 26) := HG16.out.below bb15 HG16.out.lt; have HT17 : Hid (Blk w15 nT [.int .i64 th, .int .i64 tr, .int .i64 ts, .string ti, .int .i64 tv] 31) := HT16.out.below bb15 HT16.out.lt; have HQ17 : Hid (Rdd w15 w.heap.size nS zo qa) := HQ16.out.below bb15; have HA17 : Hid (Rdd w15 w.heap.size nX xo ia) := HA16.out.below bb15; have HB17 : Hid (Below w.heap.size w w15) := HB16.out.trans (bb15.mono HB16.out.size)))
    clear HS15 HV15 HX15 HJ15 HG15 HT15 HB15 HQ15 HA15 bb14 HS16 HV16 HX16 HJ16 HG16 HT16 HB16 HQ16 HA16 bb15
    clear kP kR
    have cS_0_17 := HS17.out.cell 0 rfl
    have cS_1_17 := HS17.out.cell 1 rfl
    have cS_2_17 := HS17.out.cell 2 rfl
    have cS_3_17 := HS17.out.cell 3 rfl
    have cS_4_17 := HS17.out.cell 4 rfl
    have cS_5_17 := HS17.out.cell 5 rfl
    have cS_6_17 := HS17.out.cell 6 rfl
    have cS_7_17 := HS17.out.cell 7 rfl
    have cS_8_17 := HS17.out.cell 8 rfl
    have cS_9_17 := HS17.out.cell 9 rfl
    have cS_10_17 := HS17.out.cell 10 rfl
    go_wp2_with fail
    clear cS_0_17 cS_1_17 cS_2_17 cS_3_17 cS_4_17 cS_5_17 cS_6_17 cS_7_17 cS_8_17 cS_9_17 cS_10_17
    refine (kS _ HQ17.out.1).mono ?_
    rintro e w16 ⟨rfl, bb⟩
    have HS18 : Hid (Blk w16 nS [.int .i64 zv, .int .i64 xdh, .int .i64 xdr, .int .i64 xds, .string xdi, .int .i64 zmh, .int .i64 zmr, .int .i64 zms, .string zmi, .bool zp, .slice qa zo.length qc] 29) := HS17.out.below bb HS17.out.lt
    have HV18 : Hid (Blk w16 nV [.int .i64 yh, .int .i64 yr, .int .i64 ys, .string yi, .int .i64 yv] 31) := HV17.out.below bb HV17.out.lt
    have HX18 : Hid (Blk w16 nX [.int .i64 xv, .int .i64 xdh, .int .i64 xdr, .int .i64 xds, .string xdi, .int .i64 xmh, .int .i64 xmr, .int .i64 xms, .string xmi, .bool true, .slice ia xo.length ic] 29) := HX17.out.below bb HX17.out.lt
    have HJ18 : Hid (Blk w16 nJ [.int .i64 xv, .int .i64 xdh, .int .i64 xdr, .int .i64 xds, .string xdi, .int .i64 xmh, .int .i64 xmr, .int .i64 xms, .string xmi, .bool true, .slice ja xo.length jc] 29) := HJ17.out.below bb HJ17.out.lt
    have HG18 : Hid (Blk w16 nG [.int .i64 gh, .int .i64 gr, .int .i64 gs, .string gi] 26) := HG17.out.below bb HG17.out.lt
    have HT18 : Hid (Blk w16 nT [.int .i64 th, .int .i64 tr, .int .i64 ts, .string ti, .int .i64 tv] 31) := HT17.out.below bb HT17.out.lt
    have HQ18 : Hid (Rdd w16 w.heap.size nS zo qa) := HQ17.out.below bb
    have HA18 : Hid (Rdd w16 w.heap.size nX xo ia) := HA17.out.below bb
    have HB18 : Hid (Below w.heap.size w w16) := HB17.out.trans (bb.mono HB17.out.size)
    clear HS17 HV17 HX17 HJ17 HG17 HT17 HB17 HQ17 HA17
    clear bb
    clear kS
    have cS_0_18 := HS18.out.cell 0 rfl
    have cS_1_18 := HS18.out.cell 1 rfl
    have cS_2_18 := HS18.out.cell 2 rfl
    have cS_3_18 := HS18.out.cell 3 rfl
    have cS_4_18 := HS18.out.cell 4 rfl
    have cS_5_18 := HS18.out.cell 5 rfl
    have cS_6_18 := HS18.out.cell 6 rfl
    have cS_7_18 := HS18.out.cell 7 rfl
    have cS_8_18 := HS18.out.cell 8 rfl
    have cS_9_18 := HS18.out.cell 9 rfl
    have cS_10_18 := HS18.out.cell 10 rfl
    go_wp2_with fail
    clear cS_0_18 cS_1_18 cS_2_18 cS_3_18 cS_4_18 cS_5_18 cS_6_18 cS_7_18 cS_8_18 cS_9_18 cS_10_18
    refine (kY _ HQ18.out.1).mono ?_
    rintro e w17 ⟨ua, uc, rfl, HQ, bb⟩
    have HU1 : Hid (Rdd w17 w.heap.size w17.heap.size uo ua) := OwnY.rdd2 (own_less HQ.out HB18.out.size)
    clear HQ
    have HS19 : Hid (Blk w17 nS [.int .i64 zv, .int .i64 xdh, .int .i64 xdr, .int .i64 xds, .string xdi, .int .i64 zmh, .int .i64 zmr, .int .i64 zms, .string zmi, .bool zp, .slice qa zo.length qc] 29) := HS18.out.below bb HS18.out.lt
    have HV19 : Hid (Blk w17 nV [.int .i64 yh, .int .i64 yr, .int .i64 ys, .string yi, .int .i64 yv] 31) := HV18.out.below bb HV18.out.lt
    have HX19 : Hid (Blk w17 nX [.int .i64 xv, .int .i64 xdh, .int .i64 xdr, .int .i64 xds, .string xdi, .int .i64 xmh, .int .i64 xmr, .int .i64 xms, .string xmi, .bool true, .slice ia xo.length ic] 29) := HX18.out.below bb HX18.out.lt
    have HJ19 : Hid (Blk w17 nJ [.int .i64 xv, .int .i64 xdh, .int .i64 xdr, .int .i64 xds, .string xdi, .int .i64 xmh, .int .i64 xmr, .int .i64 xms, .string xmi, .bool true, .slice ja xo.length jc] 29) := HJ18.out.below bb HJ18.out.lt
    have HG19 : Hid (Blk w17 nG [.int .i64 gh, .int .i64 gr, .int .i64 gs, .string gi] 26) := HG18.out.below bb HG18.out.lt
    have HT19 : Hid (Blk w17 nT [.int .i64 th, .int .i64 tr, .int .i64 ts, .string ti, .int .i64 tv] 31) := HT18.out.below bb HT18.out.lt
    have HQ19 : Hid (Rdd w17 w.heap.size nS zo qa) := HQ18.out.below bb
    have HA19 : Hid (Rdd w17 w.heap.size nX xo ia) := HA18.out.below bb
    have HB19 : Hid (Below w.heap.size w w17) := HB18.out.trans (bb.mono HB18.out.size)
    clear HS18 HV18 HX18 HJ18 HG18 HT18 HB18 HQ18 HA18
    clear bb
    clear kY
    obtain ⟨nU, hnU⟩ : ∃ n, w17.heap.size = n := ⟨_, rfl⟩
    have hnUS : nS < nU := by rw [← hnU]; exact HS19.out.lt
    have hnUV : nV < nU := by rw [← hnU]; exact HV19.out.lt
    have hnUX : nX < nU := by rw [← hnU]; exact HX19.out.lt
    have hnUJ : nJ < nU := by rw [← hnU]; exact HJ19.out.lt
    have hnUG : nG < nU := by rw [← hnU]; exact HG19.out.lt
    have hnUT : nT < nU := by rw [← hnU]; exact HT19.out.lt
    have HE0 : Hid (Rdd w17 w.heap.size nU uo ua) := by rw [← hnU]; exact HU1.out
    clear HU1
    obtain ⟨wa18, hwa18⟩ : ∃ W, w17.alloc (.cells #[.int .i64 uv, .int .i64 udh, .int .i64 udr, .int .i64 uds, .string udi, .int .i64 umh, .int .i64 umr, .int .i64 ums, .string umi, .bool up, .slice ua uo.length uc] 29) = W := ⟨_, rfl⟩
    have HAnU : Hid (Below w17.heap.size w17 wa18) := by rw [← hwa18]; exact below_one _ _
    have HS20 : Hid (Blk wa18 nS [.int .i64 zv, .int .i64 xdh, .int .i64 xdr, .int .i64 xds, .string xdi, .int .i64 zmh, .int .i64 zmr, .int .i64 zms, .string zmi, .bool zp, .slice qa zo.length qc] 29) := HS19.out.below HAnU.out HS19.out.lt
    have HV20 : Hid (Blk wa18 nV [.int .i64 yh, .int .i64 yr, .int .i64 ys, .string yi, .int .i64 yv] 31) := HV19.out.below HAnU.out HV19.out.lt
    have HX20 : Hid (Blk wa18 nX [.int .i64 xv, .int .i64 xdh, .int .i64 xdr, .int .i64 xds, .string xdi, .int .i64 xmh, .int .i64 xmr, .int .i64 xms, .string xmi, .bool true, .slice ia xo.length ic] 29) := HX19.out.below HAnU.out HX19.out.lt
    have HJ20 : Hid (Blk wa18 nJ [.int .i64 xv, .int .i64 xdh, .int .i64 xdr, .int .i64 xds, .string xdi, .int .i64 xmh, .int .i64 xmr, .int .i64 xms, .string xmi, .bool true, .slice ja xo.length jc] 29) := HJ19.out.below HAnU.out HJ19.out.lt
    have HG20 : Hid (Blk wa18 nG [.int .i64 gh, .int .i64 gr, .int .i64 gs, .string gi] 26) := HG19.out.below HAnU.out HG19.out.lt
    have HT20 : Hid (Blk wa18 nT [.int .i64 th, .int .i64 tr, .int .i64 ts, .string ti, .int .i64 tv] 31) := HT19.out.below HAnU.out HT19.out.lt
    have HQ20 : Hid (Rdd wa18 w.heap.size nS zo qa) := HQ19.out.below HAnU.out
    have HA20 : Hid (Rdd wa18 w.heap.size nX xo ia) := HA19.out.below HAnU.out
    have HE20 : Hid (Rdd wa18 w.heap.size nU uo ua) := HE0.out.below HAnU.out
    have HB20 : Hid (Below w.heap.size w wa18) := HB19.out.trans (HAnU.out.mono HB19.out.size)
    have HU20 : Hid (Blk wa18 nU [.int .i64 uv, .int .i64 udh, .int .i64 udr, .int .i64 uds, .string udi, .int .i64 umh, .int .i64 umr, .int .i64 ums, .string umi, .bool up, .slice ua uo.length uc] 29) := by rw [← hwa18, ← hnU]; exact blk_new _ _ _
    clear HAnU HS19 HV19 HX19 HJ19 HG19 HT19 HB19 HQ19 HA19 HE0
    have cS_0_20 := HS20.out.cell 0 rfl
    have cS_1_20 := HS20.out.cell 1 rfl
    have cS_2_20 := HS20.out.cell 2 rfl
    have cS_3_20 := HS20.out.cell 3 rfl
    have cS_4_20 := HS20.out.cell 4 rfl
    have cS_5_20 := HS20.out.cell 5 rfl
    have cS_6_20 := HS20.out.cell 6 rfl
    have cS_7_20 := HS20.out.cell 7 rfl
    have cS_8_20 := HS20.out.cell 8 rfl
    have cS_9_20 := HS20.out.cell 9 rfl
    have cS_10_20 := HS20.out.cell 10 rfl
    have cX_0_20 := HX20.out.cell 0 rfl
    have cX_1_20 := HX20.out.cell 1 rfl
    have cX_2_20 := HX20.out.cell 2 rfl
    have cX_3_20 := HX20.out.cell 3 rfl
    have cX_4_20 := HX20.out.cell 4 rfl
    have cX_5_20 := HX20.out.cell 5 rfl
    have cX_6_20 := HX20.out.cell 6 rfl
    have cX_7_20 := HX20.out.cell 7 rfl
    have cX_8_20 := HX20.out.cell 8 rfl
    have cX_9_20 := HX20.out.cell 9 rfl
    have cX_10_20 := HX20.out.cell 10 rfl
    have cU_0_20 := HU20.out.cell 0 rfl
    have cU_1_20 := HU20.out.cell 1 rfl
    have cU_2_20 := HU20.out.cell 2 rfl
    have cU_3_20 := HU20.out.cell 3 rfl
    have cU_4_20 := HU20.out.cell 4 rfl
    have cU_5_20 := HU20.out.cell 5 rfl
    have cU_6_20 := HU20.out.cell 6 rfl
    have cU_7_20 := HU20.out.cell 7 rfl
    have cU_8_20 := HU20.out.cell 8 rfl
    have cU_9_20 := HU20.out.cell 9 rfl
    have cU_10_20 := HU20.out.cell 10 rfl
    go_wp2_with fail
    clear hwa18 hnU cS_0_20 cS_1_20 cS_2_20 cS_3_20 cS_4_20 cS_5_20 cS_6_20 cS_7_20 cS_8_20 cS_9_20 cS_10_20 cX_0_20 cX_1_20 cX_2_20 cX_3_20 cX_4_20 cX_5_20 cX_6_20 cX_7_20 cX_8_20 cX_9_20 cX_10_20 cU_0_20 cU_1_20 cU_2_20 cU_3_20 cU_4_20 cU_5_20 cU_6_20 cU_7_20 cU_8_20 cU_9_20 cU_10_20
    refine (kX ia ic _ HA20.out.1).mono ?_
    rintro e w19 ⟨rfl, bb⟩
    have HS21 : Hid (Blk w19 nS [.int .i64 zv, .int .i64 xdh, .int .i64 xdr, .int .i64 xds, .string xdi, .int .i64 zmh, .int .i64 zmr, .int .i64 zms, .string zmi, .bool zp, .slice qa zo.length qc] 29) := HS20.out.below bb HS20.out.lt
    have HV21 : Hid (Blk w19 nV [.int .i64 yh, .int .i64 yr, .int .i64 ys, .string yi, .int .i64 yv] 31) := HV20.out.below bb HV20.out.lt
    have HX21 : Hid (Blk w19 nX [.int .i64 xv, .int .i64 xdh, .int .i64 xdr, .int .i64 xds, .string xdi, .int .i64 xmh, .int .i64 xmr, .int .i64 xms, .string xmi, .bool true, .slice ia xo.length ic] 29) := HX20.out.below bb HX20.out.lt
    have HJ21 : Hid (Blk w19 nJ [.int .i64 xv, .int .i64 xdh, .int .i64 xdr, .int .i64 xds, .string xdi, .int .i64 xmh, .int .i64 xmr, .int .i64 xms, .string xmi, .bool true, .slice ja xo.length jc] 29) := HJ20.out.below bb HJ20.out.lt
    have HG21 : Hid (Blk w19 nG [.int .i64 gh, .int .i64 gr, .int .i64 gs, .string gi] 26) := HG20.out.below bb HG20.out.lt
    have HT21 : Hid (Blk w19 nT [.int .i64 th, .int .i64 tr, .int .i64 ts, .string ti, .int .i64 tv] 31) := HT20.out.below bb HT20.out.lt
    have HU21 : Hid (Blk w19 nU [.int .i64 uv, .int .i64 udh, .int .i64 udr, .int .i64 uds, .string udi, .int .i64 umh, .int .i64 umr, .int .i64 ums, .string umi, .bool up, .slice ua uo.length uc] 29) := HU20.out.below bb HU20.out.lt
    have HQ21 : Hid (Rdd w19 w.heap.size nS zo qa) := HQ20.out.below bb
    have HA21 : Hid (Rdd w19 w.heap.size nX xo ia) := HA20.out.below bb
    have HE21 : Hid (Rdd w19 w.heap.size nU uo ua) := HE20.out.below bb
    have HB21 : Hid (Below w.heap.size w w19) := HB20.out.trans (bb.mono HB20.out.size)
    clear HS20 HV20 HX20 HJ20 HG20 HT20 HU20 HB20 HQ20 HA20 HE20
    clear bb
    clear kX
    have cS_0_21 := HS21.out.cell 0 rfl
    have cS_1_21 := HS21.out.cell 1 rfl
    have cS_2_21 := HS21.out.cell 2 rfl
    have cS_3_21 := HS21.out.cell 3 rfl
    have cS_4_21 := HS21.out.cell 4 rfl
    have cS_5_21 := HS21.out.cell 5 rfl
    have cS_6_21 := HS21.out.cell 6 rfl
    have cS_7_21 := HS21.out.cell 7 rfl
    have cS_8_21 := HS21.out.cell 8 rfl
    have cS_9_21 := HS21.out.cell 9 rfl
    have cS_10_21 := HS21.out.cell 10 rfl
    have cX_0_21 := HX21.out.cell 0 rfl
    have cX_1_21 := HX21.out.cell 1 rfl
    have cX_2_21 := HX21.out.cell 2 rfl
    have cX_3_21 := HX21.out.cell 3 rfl
    have cX_4_21 := HX21.out.cell 4 rfl
    have cX_5_21 := HX21.out.cell 5 rfl
    have cX_6_21 := HX21.out.cell 6 rfl
    have cX_7_21 := HX21.out.cell 7 rfl
    have cX_8_21 := HX21.out.cell 8 rfl
    have cX_9_21 := HX21.out.cell 9 rfl
    have cX_10_21 := HX21.out.cell 10 rfl
    have cU_0_21 := HU21.out.cell 0 rfl
    have cU_1_21 := HU21.out.cell 1 rfl
    have cU_2_21 := HU21.out.cell 2 rfl
    have cU_3_21 := HU21.out.cell 3 rfl
    have cU_4_21 := HU21.out.cell 4 rfl
    have cU_5_21 := HU21.out.cell 5 rfl
    have cU_6_21 := HU21.out.cell 6 rfl
    have cU_7_21 := HU21.out.cell 7 rfl
    have cU_8_21 := HU21.out.cell 8 rfl
    have cU_9_21 := HU21.out.cell 9 rfl
    have cU_10_21 := HU21.out.cell 10 rfl
    go_wp2_with fail
    clear cS_0_21 cS_1_21 cS_2_21 cS_3_21 cS_4_21 cS_5_21 cS_6_21 cS_7_21 cS_8_21 cS_9_21 cS_10_21 cX_0_21 cX_1_21 cX_2_21 cX_3_21 cX_4_21 cX_5_21 cX_6_21 cX_7_21 cX_8_21 cX_9_21 cX_10_21 cU_0_21 cU_1_21 cU_2_21 cU_3_21 cU_4_21 cU_5_21 cU_6_21 cU_7_21 cU_8_21 cU_9_21 cU_10_21
    refine (kZ ua uc _ HE21.out.1).mono ?_
    rintro e w20 ⟨rfl, bb⟩
    have HS22 : Hid (Blk w20 nS [.int .i64 zv, .int .i64 xdh, .int .i64 xdr, .int .i64 xds, .string xdi, .int .i64 zmh, .int .i64 zmr, .int .i64 zms, .string zmi, .bool zp, .slice qa zo.length qc] 29) := HS21.out.below bb HS21.out.lt
    have HV22 : Hid (Blk w20 nV [.int .i64 yh, .int .i64 yr, .int .i64 ys, .string yi, .int .i64 yv] 31) := HV21.out.below bb HV21.out.lt
    have HX22 : Hid (Blk w20 nX [.int .i64 xv, .int .i64 xdh, .int .i64 xdr, .int .i64 xds, .string xdi, .int .i64 xmh, .int .i64 xmr, .int .i64 xms, .string xmi, .bool true, .slice ia xo.length ic] 29) := HX21.out.below bb HX21.out.lt
    have HJ22 : Hid (Blk w20 nJ [.int .i64 xv, .int .i64 xdh, .int .i64 xdr, .int .i64 xds, .string xdi, .int .i64 xmh, .int .i64 xmr, .int .i64 xms, .string xmi, .bool true, .slice ja xo.length jc] 29) := HJ21.out.below bb HJ21.out.lt
    have HG22 : Hid (Blk w20 nG [.int .i64 gh, .int .i64 gr, .int .i64 gs, .string gi] 26) := HG21.out.below bb HG21.out.lt
    have HT22 : Hid (Blk w20 nT [.int .i64 th, .int .i64 tr, .int .i64 ts, .string ti, .int .i64 tv] 31) := HT21.out.below bb HT21.out.lt
    have HU22 : Hid (Blk w20 nU [.int .i64 uv, .int .i64 udh, .int .i64 udr, .int .i64 uds, .string udi, .int .i64 umh, .int .i64 umr, .int .i64 ums, .string umi, .bool up, .slice ua uo.length uc] 29) := HU21.out.below bb HU21.out.lt
    have HQ22 : Hid (Rdd w20 w.heap.size nS zo qa) := HQ21.out.below bb
    have HA22 : Hid (Rdd w20 w.heap.size nX xo ia) := HA21.out.below bb
    have HE22 : Hid (Rdd w20 w.heap.size nU uo ua) := HE21.out.below bb
    have HB22 : Hid (Below w.heap.size w w20) := HB21.out.trans (bb.mono HB21.out.size)
    clear HS21 HV21 HX21 HJ21 HG21 HT21 HU21 HB21 HQ21 HA21 HE21
    clear bb
    clear kZ
    have cS_0_22 := HS22.out.cell 0 rfl
    have cS_1_22 := HS22.out.cell 1 rfl
    have cS_2_22 := HS22.out.cell 2 rfl
    have cS_3_22 := HS22.out.cell 3 rfl
    have cS_4_22 := HS22.out.cell 4 rfl
    have cS_5_22 := HS22.out.cell 5 rfl
    have cS_6_22 := HS22.out.cell 6 rfl
    have cS_7_22 := HS22.out.cell 7 rfl
    have cS_8_22 := HS22.out.cell 8 rfl
    have cS_9_22 := HS22.out.cell 9 rfl
    have cS_10_22 := HS22.out.cell 10 rfl
    have cX_0_22 := HX22.out.cell 0 rfl
    have cX_1_22 := HX22.out.cell 1 rfl
    have cX_2_22 := HX22.out.cell 2 rfl
    have cX_3_22 := HX22.out.cell 3 rfl
    have cX_4_22 := HX22.out.cell 4 rfl
    have cX_5_22 := HX22.out.cell 5 rfl
    have cX_6_22 := HX22.out.cell 6 rfl
    have cX_7_22 := HX22.out.cell 7 rfl
    have cX_8_22 := HX22.out.cell 8 rfl
    have cX_9_22 := HX22.out.cell 9 rfl
    have cX_10_22 := HX22.out.cell 10 rfl
    have cU_0_22 := HU22.out.cell 0 rfl
    have cU_1_22 := HU22.out.cell 1 rfl
    have cU_2_22 := HU22.out.cell 2 rfl
    have cU_3_22 := HU22.out.cell 3 rfl
    have cU_4_22 := HU22.out.cell 4 rfl
    have cU_5_22 := HU22.out.cell 5 rfl
    have cU_6_22 := HU22.out.cell 6 rfl
    have cU_7_22 := HU22.out.cell 7 rfl
    have cU_8_22 := HU22.out.cell 8 rfl
    have cU_9_22 := HU22.out.cell 9 rfl
    have cU_10_22 := HU22.out.cell 10 rfl
    cases zp
    · go_wp2
      go_ret
      exact ⟨rfl, HB22.out⟩
    · go_wp2
      go_ret
      exact ⟨rfl, HB22.out⟩
  · skip
    simp only [hs] at kS
    simp only [hx] at kX
    simp only [hu] at kZ
    subst hb
    clear hx hu
    obtain ⟨xv, ⟨xdh, xdr, xds, xdi⟩, ⟨xmh, xmr, xms, xmi⟩, xp, xo⟩ := x
    obtain ⟨uv, ⟨udh, udr, uds, udi⟩, ⟨umh, umr, ums, umi⟩, up, uo⟩ := u
    obtain ⟨zv, ⟨zdh, zdr, zds, zdi⟩, ⟨zmh, zmr, zms, zmi⟩, zp, zo⟩ := z
    obtain ⟨yh, yr, ys, yi, yv⟩ := y
    unfold sV sQ tV at *
    simp only at *
    obtain ⟨rfl, rfl, rfl, rfl⟩ : xdh = zdh ∧ xdr = zdr ∧ xds = zds ∧ xdi = zdi := by simpa using hd
    clear hd
    obtain ⟨rfl, rfl, rfl, rfl⟩ : xmh = zmh ∧ xmr = zmr ∧ xms = zms ∧ xmi = zmi := by simpa using hm2
    clear hm2
    have hc0 : ¬ c = 0 := hc
    clear hs
    have hE1 := fun W => run_eqG ⟨xdh, xdr, xds, xdi⟩ ⟨xdh, xdr, xds, xdi⟩ W
    have hE2 := fun W => run_eqG ⟨xmh, xmr, xms, xmi⟩ ⟨xmh, xmr, xms, xmi⟩ W
    simp only [show geB (⟨xdh, xdr, xds, xdi⟩ : Gt) ⟨xdh, xdr, xds, xdi⟩ = true from geB_iff.2 rfl] at hE1
    simp only [show geB (⟨xmh, xmr, xms, xmi⟩ : Gt) ⟨xmh, xmr, xms, xmi⟩ = true from geB_iff.2 rfl] at hE2
    have hg := guardG
    obtain ⟨wa3, hwa3⟩ : ∃ W, w2.alloc (.cells #[.int .i64 0, .int .i64 0, .int .i64 0, .int .i64 0, .string ⟨#[]⟩, .int .i64 0, .int .i64 0, .int .i64 0, .string ⟨#[]⟩, .bool false, .slice none 0 0] 29) = W := ⟨_, rfl⟩
    have HAnS : Hid (Below w2.heap.size w2 wa3) := by rw [← hwa3]; exact below_one _ _
    have HQ2 : Hid (Rdd wa3 w.heap.size nS zo qa) := HQ0.out.below HAnS.out
    have HB2 : Hid (Below w.heap.size w wa3) := HB1.out.trans (HAnS.out.mono HB1.out.size)
    have HS2 : Hid (Blk wa3 nS [.int .i64 0, .int .i64 0, .int .i64 0, .int .i64 0, .string ⟨#[]⟩, .int .i64 0, .int .i64 0, .int .i64 0, .string ⟨#[]⟩, .bool false, .slice none 0 0] 29) := by rw [← hwa3, ← hnS]; exact blk_new _ _ _
    clear HAnS HB1 HQ0
    obtain ⟨nV, hnV⟩ : ∃ n, wa3.heap.size = n := ⟨_, rfl⟩
    have hnVS : nS < nV := by rw [← hnV]; exact HS2.out.lt
    obtain ⟨wa4, hwa4⟩ : ∃ W, wa3.alloc (.cells #[.int .i64 0, .int .i64 0, .int .i64 0, .string ⟨#[]⟩, .int .i64 0] 31) = W := ⟨_, rfl⟩
    have HAnV : Hid (Below wa3.heap.size wa3 wa4) := by rw [← hwa4]; exact below_one _ _
    have HS3 : Hid (Blk wa4 nS [.int .i64 0, .int .i64 0, .int .i64 0, .int .i64 0, .string ⟨#[]⟩, .int .i64 0, .int .i64 0, .int .i64 0, .string ⟨#[]⟩, .bool false, .slice none 0 0] 29) := HS2.out.below HAnV.out HS2.out.lt
    have HQ3 : Hid (Rdd wa4 w.heap.size nS zo qa) := HQ2.out.below HAnV.out
    have HB3 : Hid (Below w.heap.size w wa4) := HB2.out.trans (HAnV.out.mono HB2.out.size)
    have HV3 : Hid (Blk wa4 nV [.int .i64 0, .int .i64 0, .int .i64 0, .string ⟨#[]⟩, .int .i64 0] 31) := by rw [← hwa4, ← hnV]; exact blk_new _ _ _
    clear HAnV HS2 HB2 HQ2
    have cS_0_3 := HS3.out.cell 0 rfl
    have cS_1_3 := HS3.out.cell 1 rfl
    have cS_2_3 := HS3.out.cell 2 rfl
    have cS_3_3 := HS3.out.cell 3 rfl
    have cS_4_3 := HS3.out.cell 4 rfl
    have cS_5_3 := HS3.out.cell 5 rfl
    have cS_6_3 := HS3.out.cell 6 rfl
    have cS_7_3 := HS3.out.cell 7 rfl
    have cS_8_3 := HS3.out.cell 8 rfl
    have cS_9_3 := HS3.out.cell 9 rfl
    have cS_10_3 := HS3.out.cell 10 rfl
    have cV_0_3 := HV3.out.cell 0 rfl
    have cV_1_3 := HV3.out.cell 1 rfl
    have cV_2_3 := HV3.out.cell 2 rfl
    have cV_3_3 := HV3.out.cell 3 rfl
    have cV_4_3 := HV3.out.cell 4 rfl
    have zS_3 := fun j => HS3.out.frozen j
    have zV_3 := fun j => HV3.out.frozen j
    have KG4 : Hid (wa4.grownBy (((((((((((wa4.setCell ⟨nS, 0, none⟩ (.int .i64 zv)).setCell ⟨nS, 1, none⟩ (.int .i64 xdh)).setCell ⟨nS, 2, none⟩ (.int .i64 xdr)).setCell ⟨nS, 3, none⟩ (.int .i64 xds)).setCell ⟨nS, 4, none⟩ (.string xdi)).setCell ⟨nS, 5, none⟩ (.int .i64 xmh)).setCell ⟨nS, 6, none⟩ (.int .i64 xmr)).setCell ⟨nS, 7, none⟩ (.int .i64 xms)).setCell ⟨nS, 8, none⟩ (.string xmi)).setCell ⟨nS, 9, none⟩ (.bool zp)).setCell ⟨nS, 10, none⟩ (.slice qa zo.length qc)) (some nS)) := grown_set (grown_set (grown_set (grown_set (grown_set (grown_set (grown_set (grown_set (grown_set (grown_set (grown_set (grown_refl _ _) _) _) _) _) _) _) _) _) _) _) _
    have HS4 : Hid (Blk (((((((((((wa4.setCell ⟨nS, 0, none⟩ (.int .i64 zv)).setCell ⟨nS, 1, none⟩ (.int .i64 xdh)).setCell ⟨nS, 2, none⟩ (.int .i64 xdr)).setCell ⟨nS, 3, none⟩ (.int .i64 xds)).setCell ⟨nS, 4, none⟩ (.string xdi)).setCell ⟨nS, 5, none⟩ (.int .i64 xmh)).setCell ⟨nS, 6, none⟩ (.int .i64 xmr)).setCell ⟨nS, 7, none⟩ (.int .i64 xms)).setCell ⟨nS, 8, none⟩ (.string xmi)).setCell ⟨nS, 9, none⟩ (.bool zp)).setCell ⟨nS, 10, none⟩ (.slice qa zo.length qc)) nS [.int .i64 zv, .int .i64 xdh, .int .i64 xdr, .int .i64 xds, .string xdi, .int .i64 xmh, .int .i64 xmr, .int .i64 xms, .string xmi, .bool zp, .slice qa zo.length qc] 29) := (((((((((((HS3.out.set 0 (.int .i64 zv)).set 1 (.int .i64 xdh)).set 2 (.int .i64 xdr)).set 3 (.int .i64 xds)).set 4 (.string xdi)).set 5 (.int .i64 xmh)).set 6 (.int .i64 xmr)).set 7 (.int .i64 xms)).set 8 (.string xmi)).set 9 (.bool zp)).set 10 (.slice qa zo.length qc))
    have HV4 : Hid (Blk (((((((((((wa4.setCell ⟨nS, 0, none⟩ (.int .i64 zv)).setCell ⟨nS, 1, none⟩ (.int .i64 xdh)).setCell ⟨nS, 2, none⟩ (.int .i64 xdr)).setCell ⟨nS, 3, none⟩ (.int .i64 xds)).setCell ⟨nS, 4, none⟩ (.string xdi)).setCell ⟨nS, 5, none⟩ (.int .i64 xmh)).setCell ⟨nS, 6, none⟩ (.int .i64 xmr)).setCell ⟨nS, 7, none⟩ (.int .i64 xms)).setCell ⟨nS, 8, none⟩ (.string xmi)).setCell ⟨nS, 9, none⟩ (.bool zp)).setCell ⟨nS, 10, none⟩ (.slice qa zo.length qc)) nV [.int .i64 0, .int .i64 0, .int .i64 0, .string ⟨#[]⟩, .int .i64 0] 31) := HV3.out.grown KG4.out (fun e => by injection e with e; omega)
    have HQ4 : Hid (Rdd (((((((((((wa4.setCell ⟨nS, 0, none⟩ (.int .i64 zv)).setCell ⟨nS, 1, none⟩ (.int .i64 xdh)).setCell ⟨nS, 2, none⟩ (.int .i64 xdr)).setCell ⟨nS, 3, none⟩ (.int .i64 xds)).setCell ⟨nS, 4, none⟩ (.string xdi)).setCell ⟨nS, 5, none⟩ (.int .i64 xmh)).setCell ⟨nS, 6, none⟩ (.int .i64 xmr)).setCell ⟨nS, 7, none⟩ (.int .i64 xms)).setCell ⟨nS, 8, none⟩ (.string xmi)).setCell ⟨nS, 9, none⟩ (.bool zp)).setCell ⟨nS, 10, none⟩ (.slice qa zo.length qc)) w.heap.size nS zo qa) := HQ3.out.grown KG4.out (fun j e => by injection e with e; omega)
    have HB4 : Hid (Below w.heap.size w (((((((((((wa4.setCell ⟨nS, 0, none⟩ (.int .i64 zv)).setCell ⟨nS, 1, none⟩ (.int .i64 xdh)).setCell ⟨nS, 2, none⟩ (.int .i64 xdr)).setCell ⟨nS, 3, none⟩ (.int .i64 xds)).setCell ⟨nS, 4, none⟩ (.string xdi)).setCell ⟨nS, 5, none⟩ (.int .i64 xmh)).setCell ⟨nS, 6, none⟩ (.int .i64 xmr)).setCell ⟨nS, 7, none⟩ (.int .i64 xms)).setCell ⟨nS, 8, none⟩ (.string xmi)).setCell ⟨nS, 9, none⟩ (.bool zp)).setCell ⟨nS, 10, none⟩ (.slice qa zo.length qc))) := HB3.out.grown KG4.out HB3.out.size (fun j e => by injection e with e; omega)
    have cV_0_4 := HV4.out.cell 0 rfl
    have cV_1_4 := HV4.out.cell 1 rfl
    have cV_2_4 := HV4.out.cell 2 rfl
    have cV_3_4 := HV4.out.cell 3 rfl
    have cV_4_4 := HV4.out.cell 4 rfl
    have zV_4 := fun j => HV4.out.frozen j
    have KG5 : Hid ((((((((((((wa4.setCell ⟨nS, 0, none⟩ (.int .i64 zv)).setCell ⟨nS, 1, none⟩ (.int .i64 xdh)).setCell ⟨nS, 2, none⟩ (.int .i64 xdr)).setCell ⟨nS, 3, none⟩ (.int .i64 xds)).setCell ⟨nS, 4, none⟩ (.string xdi)).setCell ⟨nS, 5, none⟩ (.int .i64 xmh)).setCell ⟨nS, 6, none⟩ (.int .i64 xmr)).setCell ⟨nS, 7, none⟩ (.int .i64 xms)).setCell ⟨nS, 8, none⟩ (.string xmi)).setCell ⟨nS, 9, none⟩ (.bool zp)).setCell ⟨nS, 10, none⟩ (.slice qa zo.length qc)).grownBy ((((((((((((((((wa4.setCell ⟨nS, 0, none⟩ (.int .i64 zv)).setCell ⟨nS, 1, none⟩ (.int .i64 xdh)).setCell ⟨nS, 2, none⟩ (.int .i64 xdr)).setCell ⟨nS, 3, none⟩ (.int .i64 xds)).setCell ⟨nS, 4, none⟩ (.string xdi)).setCell ⟨nS, 5, none⟩ (.int .i64 xmh)).setCell ⟨nS, 6, none⟩ (.int .i64 xmr)).setCell ⟨nS, 7, none⟩ (.int .i64 xms)).setCell ⟨nS, 8, none⟩ (.string xmi)).setCell ⟨nS, 9, none⟩ (.bool zp)).setCell ⟨nS, 10, none⟩ (.slice qa zo.length qc)).setCell ⟨nV, 0, none⟩ (.int .i64 yh)).setCell ⟨nV, 1, none⟩ (.int .i64 yr)).setCell ⟨nV, 2, none⟩ (.int .i64 ys)).setCell ⟨nV, 3, none⟩ (.string yi)).setCell ⟨nV, 4, none⟩ (.int .i64 yv)) (some nV)) := grown_set (grown_set (grown_set (grown_set (grown_set (grown_refl _ _) _) _) _) _) _
    have HS5 : Hid (Blk ((((((((((((((((wa4.setCell ⟨nS, 0, none⟩ (.int .i64 zv)).setCell ⟨nS, 1, none⟩ (.int .i64 xdh)).setCell ⟨nS, 2, none⟩ (.int .i64 xdr)).setCell ⟨nS, 3, none⟩ (.int .i64 xds)).setCell ⟨nS, 4, none⟩ (.string xdi)).setCell ⟨nS, 5, none⟩ (.int .i64 xmh)).setCell ⟨nS, 6, none⟩ (.int .i64 xmr)).setCell ⟨nS, 7, none⟩ (.int .i64 xms)).setCell ⟨nS, 8, none⟩ (.string xmi)).setCell ⟨nS, 9, none⟩ (.bool zp)).setCell ⟨nS, 10, none⟩ (.slice qa zo.length qc)).setCell ⟨nV, 0, none⟩ (.int .i64 yh)).setCell ⟨nV, 1, none⟩ (.int .i64 yr)).setCell ⟨nV, 2, none⟩ (.int .i64 ys)).setCell ⟨nV, 3, none⟩ (.string yi)).setCell ⟨nV, 4, none⟩ (.int .i64 yv)) nS [.int .i64 zv, .int .i64 xdh, .int .i64 xdr, .int .i64 xds, .string xdi, .int .i64 xmh, .int .i64 xmr, .int .i64 xms, .string xmi, .bool zp, .slice qa zo.length qc] 29) := HS4.out.grown KG5.out (fun e => by injection e with e; omega)
    have HV5 : Hid (Blk ((((((((((((((((wa4.setCell ⟨nS, 0, none⟩ (.int .i64 zv)).setCell ⟨nS, 1, none⟩ (.int .i64 xdh)).setCell ⟨nS, 2, none⟩ (.int .i64 xdr)).setCell ⟨nS, 3, none⟩ (.int .i64 xds)).setCell ⟨nS, 4, none⟩ (.string xdi)).setCell ⟨nS, 5, none⟩ (.int .i64 xmh)).setCell ⟨nS, 6, none⟩ (.int .i64 xmr)).setCell ⟨nS, 7, none⟩ (.int .i64 xms)).setCell ⟨nS, 8, none⟩ (.string xmi)).setCell ⟨nS, 9, none⟩ (.bool zp)).setCell ⟨nS, 10, none⟩ (.slice qa zo.length qc)).setCell ⟨nV, 0, none⟩ (.int .i64 yh)).setCell ⟨nV, 1, none⟩ (.int .i64 yr)).setCell ⟨nV, 2, none⟩ (.int .i64 ys)).setCell ⟨nV, 3, none⟩ (.string yi)).setCell ⟨nV, 4, none⟩ (.int .i64 yv)) nV [.int .i64 yh, .int .i64 yr, .int .i64 ys, .string yi, .int .i64 yv] 31) := (((((HV4.out.set 0 (.int .i64 yh)).set 1 (.int .i64 yr)).set 2 (.int .i64 ys)).set 3 (.string yi)).set 4 (.int .i64 yv))
    have HQ5 : Hid (Rdd ((((((((((((((((wa4.setCell ⟨nS, 0, none⟩ (.int .i64 zv)).setCell ⟨nS, 1, none⟩ (.int .i64 xdh)).setCell ⟨nS, 2, none⟩ (.int .i64 xdr)).setCell ⟨nS, 3, none⟩ (.int .i64 xds)).setCell ⟨nS, 4, none⟩ (.string xdi)).setCell ⟨nS, 5, none⟩ (.int .i64 xmh)).setCell ⟨nS, 6, none⟩ (.int .i64 xmr)).setCell ⟨nS, 7, none⟩ (.int .i64 xms)).setCell ⟨nS, 8, none⟩ (.string xmi)).setCell ⟨nS, 9, none⟩ (.bool zp)).setCell ⟨nS, 10, none⟩ (.slice qa zo.length qc)).setCell ⟨nV, 0, none⟩ (.int .i64 yh)).setCell ⟨nV, 1, none⟩ (.int .i64 yr)).setCell ⟨nV, 2, none⟩ (.int .i64 ys)).setCell ⟨nV, 3, none⟩ (.string yi)).setCell ⟨nV, 4, none⟩ (.int .i64 yv)) w.heap.size nS zo qa) := HQ4.out.grown KG5.out (fun j e => by injection e with e; omega)
    have HB5 : Hid (Below w.heap.size w ((((((((((((((((wa4.setCell ⟨nS, 0, none⟩ (.int .i64 zv)).setCell ⟨nS, 1, none⟩ (.int .i64 xdh)).setCell ⟨nS, 2, none⟩ (.int .i64 xdr)).setCell ⟨nS, 3, none⟩ (.int .i64 xds)).setCell ⟨nS, 4, none⟩ (.string xdi)).setCell ⟨nS, 5, none⟩ (.int .i64 xmh)).setCell ⟨nS, 6, none⟩ (.int .i64 xmr)).setCell ⟨nS, 7, none⟩ (.int .i64 xms)).setCell ⟨nS, 8, none⟩ (.string xmi)).setCell ⟨nS, 9, none⟩ (.bool zp)).setCell ⟨nS, 10, none⟩ (.slice qa zo.length qc)).setCell ⟨nV, 0, none⟩ (.int .i64 yh)).setCell ⟨nV, 1, none⟩ (.int .i64 yr)).setCell ⟨nV, 2, none⟩ (.int .i64 ys)).setCell ⟨nV, 3, none⟩ (.string yi)).setCell ⟨nV, 4, none⟩ (.int .i64 yv))) := HB4.out.grown KG5.out HB4.out.size (fun j e => by injection e with e; omega)
    go_upto_region 4 with fail
    clear hwa3 hnS hwa4 hnV cS_0_3 cS_1_3 cS_2_3 cS_3_3 cS_4_3 cS_5_3 cS_6_3 cS_7_3 cS_8_3 cS_9_3 cS_10_3 cV_0_3 cV_1_3 cV_2_3 cV_3_3 cV_4_3 zS_3 zV_3 cV_0_4 cV_1_4 cV_2_4 cV_3_4 cV_4_4 zV_4
    clear HS3 HV3 HB3 HQ3 KG4 HS4 HV4 HB4 HQ4 KG5
    generalize ((((((((((((((((wa4.setCell ⟨nS, 0, none⟩ (.int .i64 zv)).setCell ⟨nS, 1, none⟩ (.int .i64 xdh)).setCell ⟨nS, 2, none⟩ (.int .i64 xdr)).setCell ⟨nS, 3, none⟩ (.int .i64 xds)).setCell ⟨nS, 4, none⟩ (.string xdi)).setCell ⟨nS, 5, none⟩ (.int .i64 xmh)).setCell ⟨nS, 6, none⟩ (.int .i64 xmr)).setCell ⟨nS, 7, none⟩ (.int .i64 xms)).setCell ⟨nS, 8, none⟩ (.string xmi)).setCell ⟨nS, 9, none⟩ (.bool zp)).setCell ⟨nS, 10, none⟩ (.slice qa zo.length qc)).setCell ⟨nV, 0, none⟩ (.int .i64 yh)).setCell ⟨nV, 1, none⟩ (.int .i64 yr)).setCell ⟨nV, 2, none⟩ (.int .i64 ys)).setCell ⟨nV, 3, none⟩ (.string yi)).setCell ⟨nV, 4, none⟩ (.int .i64 yv)) = w5 at *
    have cS_0_5 := HS5.out.cell 0 rfl
    have cS_1_5 := HS5.out.cell 1 rfl
    have cS_2_5 := HS5.out.cell 2 rfl
    have cS_3_5 := HS5.out.cell 3 rfl
    have cS_4_5 := HS5.out.cell 4 rfl
    have cS_5_5 := HS5.out.cell 5 rfl
    have cS_6_5 := HS5.out.cell 6 rfl
    have cS_7_5 := HS5.out.cell 7 rfl
    have cS_8_5 := HS5.out.cell 8 rfl
    have cS_9_5 := HS5.out.cell 9 rfl
    have cS_10_5 := HS5.out.cell 10 rfl
    have cV_0_5 := HV5.out.cell 0 rfl
    have cV_1_5 := HV5.out.cell 1 rfl
    have cV_2_5 := HV5.out.cell 2 rfl
    have cV_3_5 := HV5.out.cell 3 rfl
    have cV_4_5 := HV5.out.cell 4 rfl
    go_wp2_with fail
    clear cS_0_5 cS_1_5 cS_2_5 cS_3_5 cS_4_5 cS_5_5 cS_6_5 cS_7_5 cS_8_5 cS_9_5 cS_10_5 cV_0_5 cV_1_5 cV_2_5 cV_3_5 cV_4_5
    refine (kI _ HQ5.out.1).mono ?_
    rintro e w6 ⟨ia, ic, rfl, HQ, bb⟩
    have HX1 : Hid (Rdd w6 w.heap.size w6.heap.size xo ia) := OwnY.rdd2 (own_less HQ.out HB5.out.size)
    clear HQ
    have HS6 : Hid (Blk w6 nS [.int .i64 zv, .int .i64 xdh, .int .i64 xdr, .int .i64 xds, .string xdi, .int .i64 xmh, .int .i64 xmr, .int .i64 xms, .string xmi, .bool zp, .slice qa zo.length qc] 29) := HS5.out.below bb HS5.out.lt
    have HV6 : Hid (Blk w6 nV [.int .i64 yh, .int .i64 yr, .int .i64 ys, .string yi, .int .i64 yv] 31) := HV5.out.below bb HV5.out.lt
    have HQ6 : Hid (Rdd w6 w.heap.size nS zo qa) := HQ5.out.below bb
    have HB6 : Hid (Below w.heap.size w w6) := HB5.out.trans (bb.mono HB5.out.size)
    clear HS5 HV5 HB5 HQ5
    clear bb
    clear kI
    obtain ⟨nX, hnX⟩ : ∃ n, w6.heap.size = n := ⟨_, rfl⟩
    have hnXS : nS < nX := by rw [← hnX]; exact HS6.out.lt
    have hnXV : nV < nX := by rw [← hnX]; exact HV6.out.lt
    have HA0 : Hid (Rdd w6 w.heap.size nX xo ia) := by rw [← hnX]; exact HX1.out
    clear HX1
    obtain ⟨wa7, hwa7⟩ : ∃ W, w6.alloc (.cells #[.int .i64 xv, .int .i64 xdh, .int .i64 xdr, .int .i64 xds, .string xdi, .int .i64 xmh, .int .i64 xmr, .int .i64 xms, .string xmi, .bool xp, .slice ia xo.length ic] 29) = W := ⟨_, rfl⟩
    have HAnX : Hid (Below w6.heap.size w6 wa7) := by rw [← hwa7]; exact below_one _ _
    have HS7 : Hid (Blk wa7 nS [.int .i64 zv, .int .i64 xdh, .int .i64 xdr, .int .i64 xds, .string xdi, .int .i64 xmh, .int .i64 xmr, .int .i64 xms, .string xmi, .bool zp, .slice qa zo.length qc] 29) := HS6.out.below HAnX.out HS6.out.lt
    have HV7 : Hid (Blk wa7 nV [.int .i64 yh, .int .i64 yr, .int .i64 ys, .string yi, .int .i64 yv] 31) := HV6.out.below HAnX.out HV6.out.lt
    have HQ7 : Hid (Rdd wa7 w.heap.size nS zo qa) := HQ6.out.below HAnX.out
    have HA7 : Hid (Rdd wa7 w.heap.size nX xo ia) := HA0.out.below HAnX.out
    have HB7 : Hid (Below w.heap.size w wa7) := HB6.out.trans (HAnX.out.mono HB6.out.size)
    have HX7 : Hid (Blk wa7 nX [.int .i64 xv, .int .i64 xdh, .int .i64 xdr, .int .i64 xds, .string xdi, .int .i64 xmh, .int .i64 xmr, .int .i64 xms, .string xmi, .bool xp, .slice ia xo.length ic] 29) := by rw [← hwa7, ← hnX]; exact blk_new _ _ _
    clear HAnX HS6 HV6 HB6 HQ6 HA0
    have cS_0_7 := HS7.out.cell 0 rfl
    have cS_1_7 := HS7.out.cell 1 rfl
    have cS_2_7 := HS7.out.cell 2 rfl
    have cS_3_7 := HS7.out.cell 3 rfl
    have cS_4_7 := HS7.out.cell 4 rfl
    have cS_5_7 := HS7.out.cell 5 rfl
    have cS_6_7 := HS7.out.cell 6 rfl
    have cS_7_7 := HS7.out.cell 7 rfl
    have cS_8_7 := HS7.out.cell 8 rfl
    have cS_9_7 := HS7.out.cell 9 rfl
    have cS_10_7 := HS7.out.cell 10 rfl
    have cV_0_7 := HV7.out.cell 0 rfl
    have cV_1_7 := HV7.out.cell 1 rfl
    have cV_2_7 := HV7.out.cell 2 rfl
    have cV_3_7 := HV7.out.cell 3 rfl
    have cV_4_7 := HV7.out.cell 4 rfl
    go_wp2_with fail
    clear hwa7 hnX cS_0_7 cS_1_7 cS_2_7 cS_3_7 cS_4_7 cS_5_7 cS_6_7 cS_7_7 cS_8_7 cS_9_7 cS_10_7 cV_0_7 cV_1_7 cV_2_7 cV_3_7 cV_4_7
    refine (kJ _ HQ7.out.1).mono ?_
    rintro e w8 ⟨ja, jc, rfl, HQ, bb⟩
    clear HQ
    have HS8 : Hid (Blk w8 nS [.int .i64 zv, .int .i64 xdh, .int .i64 xdr, .int .i64 xds, .string xdi, .int .i64 xmh, .int .i64 xmr, .int .i64 xms, .string xmi, .bool zp, .slice qa zo.length qc] 29) := HS7.out.below bb HS7.out.lt
    have HV8 : Hid (Blk w8 nV [.int .i64 yh, .int .i64 yr, .int .i64 ys, .string yi, .int .i64 yv] 31) := HV7.out.below bb HV7.out.lt
    have HX8 : Hid (Blk w8 nX [.int .i64 xv, .int .i64 xdh, .int .i64 xdr, .int .i64 xds, .string xdi, .int .i64 xmh, .int .i64 xmr, .int .i64 xms, .string xmi, .bool xp, .slice ia xo.length ic] 29) := HX7.out.below bb HX7.out.lt
    have HQ8 : Hid (Rdd w8 w.heap.size nS zo qa) := HQ7.out.below bb
    have HA8 : Hid (Rdd w8 w.heap.size nX xo ia) := HA7.out.below bb
    have HB8 : Hid (Below w.heap.size w w8) := HB7.out.trans (bb.mono HB7.out.size)
    clear HS7 HV7 HX7 HB7 HQ7 HA7
    clear bb
    clear kJ
    obtain ⟨nJ, hnJ⟩ : ∃ n, w8.heap.size = n := ⟨_, rfl⟩
    have hnJS : nS < nJ := by rw [← hnJ]; exact HS8.out.lt
    have hnJV : nV < nJ := by rw [← hnJ]; exact HV8.out.lt
    have hnJX : nX < nJ := by rw [← hnJ]; exact HX8.out.lt
    obtain ⟨wa9, hwa9⟩ : ∃ W, w8.alloc (.cells #[.int .i64 xv, .int .i64 xdh, .int .i64 xdr, .int .i64 xds, .string xdi, .int .i64 xmh, .int .i64 xmr, .int .i64 xms, .string xmi, .bool xp, .slice ja xo.length jc] 29) = W := ⟨_, rfl⟩
    have HAnJ : Hid (Below w8.heap.size w8 wa9) := by rw [← hwa9]; exact below_one _ _
    have HS9 : Hid (Blk wa9 nS [.int .i64 zv, .int .i64 xdh, .int .i64 xdr, .int .i64 xds, .string xdi, .int .i64 xmh, .int .i64 xmr, .int .i64 xms, .string xmi, .bool zp, .slice qa zo.length qc] 29) := HS8.out.below HAnJ.out HS8.out.lt
    have HV9 : Hid (Blk wa9 nV [.int .i64 yh, .int .i64 yr, .int .i64 ys, .string yi, .int .i64 yv] 31) := HV8.out.below HAnJ.out HV8.out.lt
    have HX9 : Hid (Blk wa9 nX [.int .i64 xv, .int .i64 xdh, .int .i64 xdr, .int .i64 xds, .string xdi, .int .i64 xmh, .int .i64 xmr, .int .i64 xms, .string xmi, .bool xp, .slice ia xo.length ic] 29) := HX8.out.below HAnJ.out HX8.out.lt
    have HQ9 : Hid (Rdd wa9 w.heap.size nS zo qa) := HQ8.out.below HAnJ.out
    have HA9 : Hid (Rdd wa9 w.heap.size nX xo ia) := HA8.out.below HAnJ.out
    have HB9 : Hid (Below w.heap.size w wa9) := HB8.out.trans (HAnJ.out.mono HB8.out.size)
    have HJ9 : Hid (Blk wa9 nJ [.int .i64 xv, .int .i64 xdh, .int .i64 xdr, .int .i64 xds, .string xdi, .int .i64 xmh, .int .i64 xmr, .int .i64 xms, .string xmi, .bool xp, .slice ja xo.length jc] 29) := by rw [← hwa9, ← hnJ]; exact blk_new _ _ _
    clear HAnJ HS8 HV8 HX8 HB8 HQ8 HA8
    have cS_0_9 := HS9.out.cell 0 rfl
    have cS_1_9 := HS9.out.cell 1 rfl
    have cS_2_9 := HS9.out.cell 2 rfl
    have cS_3_9 := HS9.out.cell 3 rfl
    have cS_4_9 := HS9.out.cell 4 rfl
    have cS_5_9 := HS9.out.cell 5 rfl
    have cS_6_9 := HS9.out.cell 6 rfl
    have cS_7_9 := HS9.out.cell 7 rfl
    have cS_8_9 := HS9.out.cell 8 rfl
    have cS_9_9 := HS9.out.cell 9 rfl
    have cS_10_9 := HS9.out.cell 10 rfl
    go_wp2_with fail
    clear hwa9 hnJ cS_0_9 cS_1_9 cS_2_9 cS_3_9 cS_4_9 cS_5_9 cS_6_9 cS_7_9 cS_8_9 cS_9_9 cS_10_9
    refine (draw_may a L cap _ (code_below HL.out HB9.out) hlen).mono ?_
    rintro e w10 ⟨⟨gh, gr, gs, gi⟩, ⟨th, tr, ts, ti, tv⟩, rfl, bb⟩
    have HS10 : Hid (Blk w10 nS [.int .i64 zv, .int .i64 xdh, .int .i64 xdr, .int .i64 xds, .string xdi, .int .i64 xmh, .int .i64 xmr, .int .i64 xms, .string xmi, .bool zp, .slice qa zo.length qc] 29) := HS9.out.below bb HS9.out.lt
    have HV10 : Hid (Blk w10 nV [.int .i64 yh, .int .i64 yr, .int .i64 ys, .string yi, .int .i64 yv] 31) := HV9.out.below bb HV9.out.lt
    have HX10 : Hid (Blk w10 nX [.int .i64 xv, .int .i64 xdh, .int .i64 xdr, .int .i64 xds, .string xdi, .int .i64 xmh, .int .i64 xmr, .int .i64 xms, .string xmi, .bool xp, .slice ia xo.length ic] 29) := HX9.out.below bb HX9.out.lt
    have HJ10 : Hid (Blk w10 nJ [.int .i64 xv, .int .i64 xdh, .int .i64 xdr, .int .i64 xds, .string xdi, .int .i64 xmh, .int .i64 xmr, .int .i64 xms, .string xmi, .bool xp, .slice ja xo.length jc] 29) := HJ9.out.below bb HJ9.out.lt
    have HQ10 : Hid (Rdd w10 w.heap.size nS zo qa) := HQ9.out.below bb
    have HA10 : Hid (Rdd w10 w.heap.size nX xo ia) := HA9.out.below bb
    have HB10 : Hid (Below w.heap.size w w10) := HB9.out.trans (bb.mono HB9.out.size)
    clear HS9 HV9 HX9 HJ9 HB9 HQ9 HA9
    clear bb
    have kP := fun W => impl_may ⟨gh, gr, gs, gi⟩ ⟨th, tr, ts, ti, tv⟩ W
    have kR := fun W => spec_may ⟨gh, gr, gs, gi⟩ ⟨th, tr, ts, ti, tv⟩ W
    generalize mayS ⟨gh, gr, gs, gi⟩ ⟨th, tr, ts, ti, tv⟩ = t at *
    unfold gV tV at *
    simp only at *
    have htt : (t != t) = false := by simp
    obtain ⟨nG, hnG⟩ : ∃ n, w10.heap.size = n := ⟨_, rfl⟩
    have hnGS : nS < nG := by rw [← hnG]; exact HS10.out.lt
    have hnGV : nV < nG := by rw [← hnG]; exact HV10.out.lt
    have hnGX : nX < nG := by rw [← hnG]; exact HX10.out.lt
    have hnGJ : nJ < nG := by rw [← hnG]; exact HJ10.out.lt
    obtain ⟨wa11, hwa11⟩ : ∃ W, w10.alloc (.cells #[.int .i64 0, .int .i64 0, .int .i64 0, .string ⟨#[]⟩] 26) = W := ⟨_, rfl⟩
    have HAnG : Hid (Below w10.heap.size w10 wa11) := by rw [← hwa11]; exact below_one _ _
    have HS11 : Hid (Blk wa11 nS [.int .i64 zv, .int .i64 xdh, .int .i64 xdr, .int .i64 xds, .string xdi, .int .i64 xmh, .int .i64 xmr, .int .i64 xms, .string xmi, .bool zp, .slice qa zo.length qc] 29) := HS10.out.below HAnG.out HS10.out.lt
    have HV11 : Hid (Blk wa11 nV [.int .i64 yh, .int .i64 yr, .int .i64 ys, .string yi, .int .i64 yv] 31) := HV10.out.below HAnG.out HV10.out.lt
    have HX11 : Hid (Blk wa11 nX [.int .i64 xv, .int .i64 xdh, .int .i64 xdr, .int .i64 xds, .string xdi, .int .i64 xmh, .int .i64 xmr, .int .i64 xms, .string xmi, .bool xp, .slice ia xo.length ic] 29) := HX10.out.below HAnG.out HX10.out.lt
    have HJ11 : Hid (Blk wa11 nJ [.int .i64 xv, .int .i64 xdh, .int .i64 xdr, .int .i64 xds, .string xdi, .int .i64 xmh, .int .i64 xmr, .int .i64 xms, .string xmi, .bool xp, .slice ja xo.length jc] 29) := HJ10.out.below HAnG.out HJ10.out.lt
    have HQ11 : Hid (Rdd wa11 w.heap.size nS zo qa) := HQ10.out.below HAnG.out
    have HA11 : Hid (Rdd wa11 w.heap.size nX xo ia) := HA10.out.below HAnG.out
    have HB11 : Hid (Below w.heap.size w wa11) := HB10.out.trans (HAnG.out.mono HB10.out.size)
    have HG11 : Hid (Blk wa11 nG [.int .i64 0, .int .i64 0, .int .i64 0, .string ⟨#[]⟩] 26) := by rw [← hwa11, ← hnG]; exact blk_new _ _ _
    clear HAnG HS10 HV10 HX10 HJ10 HB10 HQ10 HA10
    obtain ⟨nT, hnT⟩ : ∃ n, wa11.heap.size = n := ⟨_, rfl⟩
    have hnTS : nS < nT := by rw [← hnT]; exact HS11.out.lt
    have hnTV : nV < nT := by rw [← hnT]; exact HV11.out.lt
    have hnTX : nX < nT := by rw [← hnT]; exact HX11.out.lt
    have hnTJ : nJ < nT := by rw [← hnT]; exact HJ11.out.lt
    have hnTG : nG < nT := by rw [← hnT]; exact HG11.out.lt
    obtain ⟨wa12, hwa12⟩ : ∃ W, wa11.alloc (.cells #[.int .i64 0, .int .i64 0, .int .i64 0, .string ⟨#[]⟩, .int .i64 0] 31) = W := ⟨_, rfl⟩
    have HAnT : Hid (Below wa11.heap.size wa11 wa12) := by rw [← hwa12]; exact below_one _ _
    have HS12 : Hid (Blk wa12 nS [.int .i64 zv, .int .i64 xdh, .int .i64 xdr, .int .i64 xds, .string xdi, .int .i64 xmh, .int .i64 xmr, .int .i64 xms, .string xmi, .bool zp, .slice qa zo.length qc] 29) := HS11.out.below HAnT.out HS11.out.lt
    have HV12 : Hid (Blk wa12 nV [.int .i64 yh, .int .i64 yr, .int .i64 ys, .string yi, .int .i64 yv] 31) := HV11.out.below HAnT.out HV11.out.lt
    have HX12 : Hid (Blk wa12 nX [.int .i64 xv, .int .i64 xdh, .int .i64 xdr, .int .i64 xds, .string xdi, .int .i64 xmh, .int .i64 xmr, .int .i64 xms, .string xmi, .bool xp, .slice ia xo.length ic] 29) := HX11.out.below HAnT.out HX11.out.lt
    have HJ12 : Hid (Blk wa12 nJ [.int .i64 xv, .int .i64 xdh, .int .i64 xdr, .int .i64 xds, .string xdi, .int .i64 xmh, .int .i64 xmr, .int .i64 xms, .string xmi, .bool xp, .slice ja xo.length jc] 29) := HJ11.out.below HAnT.out HJ11.out.lt
    have HG12 : Hid (Blk wa12 nG [.int .i64 0, .int .i64 0, .int .i64 0, .string ⟨#[]⟩] 26) := HG11.out.below HAnT.out HG11.out.lt
    have HQ12 : Hid (Rdd wa12 w.heap.size nS zo qa) := HQ11.out.below HAnT.out
    have HA12 : Hid (Rdd wa12 w.heap.size nX xo ia) := HA11.out.below HAnT.out
    have HB12 : Hid (Below w.heap.size w wa12) := HB11.out.trans (HAnT.out.mono HB11.out.size)
    have HT12 : Hid (Blk wa12 nT [.int .i64 0, .int .i64 0, .int .i64 0, .string ⟨#[]⟩, .int .i64 0] 31) := by rw [← hwa12, ← hnT]; exact blk_new _ _ _
    clear HAnT HS11 HV11 HX11 HJ11 HG11 HB11 HQ11 HA11
    have cG_0_12 := HG12.out.cell 0 rfl
    have cG_1_12 := HG12.out.cell 1 rfl
    have cG_2_12 := HG12.out.cell 2 rfl
    have cG_3_12 := HG12.out.cell 3 rfl
    have cT_0_12 := HT12.out.cell 0 rfl
    have cT_1_12 := HT12.out.cell 1 rfl
    have cT_2_12 := HT12.out.cell 2 rfl
    have cT_3_12 := HT12.out.cell 3 rfl
    have cT_4_12 := HT12.out.cell 4 rfl
    have zG_12 := fun j => HG12.out.frozen j
    have zT_12 := fun j => HT12.out.frozen j
    have KG13 : Hid (wa12.grownBy ((((wa12.setCell ⟨nG, 0, none⟩ (.int .i64 gh)).setCell ⟨nG, 1, none⟩ (.int .i64 gr)).setCell ⟨nG, 2, none⟩ (.int .i64 gs)).setCell ⟨nG, 3, none⟩ (.string gi)) (some nG)) := grown_set (grown_set (grown_set (grown_set (grown_refl _ _) _) _) _) _
    have HS13 : Hid (Blk ((((wa12.setCell ⟨nG, 0, none⟩ (.int .i64 gh)).setCell ⟨nG, 1, none⟩ (.int .i64 gr)).setCell ⟨nG, 2, none⟩ (.int .i64 gs)).setCell ⟨nG, 3, none⟩ (.string gi)) nS [.int .i64 zv, .int .i64 xdh, .int .i64 xdr, .int .i64 xds, .string xdi, .int .i64 xmh, .int .i64 xmr, .int .i64 xms, .string xmi, .bool zp, .slice qa zo.length qc] 29) := HS12.out.grown KG13.out (fun e => by injection e with e; omega)
    have HV13 : Hid (Blk ((((wa12.setCell ⟨nG, 0, none⟩ (.int .i64 gh)).setCell ⟨nG, 1, none⟩ (.int .i64 gr)).setCell ⟨nG, 2, none⟩ (.int .i64 gs)).setCell ⟨nG, 3, none⟩ (.string gi)) nV [.int .i64 yh, .int .i64 yr, .int .i64 ys, .string yi, .int .i64 yv] 31) := HV12.out.grown KG13.out (fun e => by injection e with e; omega)
    have HX13 : Hid (Blk ((((wa12.setCell ⟨nG, 0, none⟩ (.int .i64 gh)).setCell ⟨nG, 1, none⟩ (.int .i64 gr)).setCell ⟨nG, 2, none⟩ (.int .i64 gs)).setCell ⟨nG, 3, none⟩ (.string gi)) nX [.int .i64 xv, .int .i64 xdh, .int .i64 xdr, .int .i64 xds, .string xdi, .int .i64 xmh, .int .i64 xmr, .int .i64 xms, .string xmi, .bool xp, .slice ia xo.length ic] 29) := HX12.out.grown KG13.out (fun e => by injection e with e; omega)
    have HJ13 : Hid (Blk ((((wa12.setCell ⟨nG, 0, none⟩ (.int .i64 gh)).setCell ⟨nG, 1, none⟩ (.int .i64 gr)).setCell ⟨nG, 2, none⟩ (.int .i64 gs)).setCell ⟨nG, 3, none⟩ (.string gi)) nJ [.int .i64 xv, .int .i64 xdh, .int .i64 xdr, .int .i64 xds, .string xdi, .int .i64 xmh, .int .i64 xmr, .int .i64 xms, .string xmi, .bool xp, .slice ja xo.length jc] 29) := HJ12.out.grown KG13.out (fun e => by injection e with e; omega)
    have HG13 : Hid (Blk ((((wa12.setCell ⟨nG, 0, none⟩ (.int .i64 gh)).setCell ⟨nG, 1, none⟩ (.int .i64 gr)).setCell ⟨nG, 2, none⟩ (.int .i64 gs)).setCell ⟨nG, 3, none⟩ (.string gi)) nG [.int .i64 gh, .int .i64 gr, .int .i64 gs, .string gi] 26) := ((((HG12.out.set 0 (.int .i64 gh)).set 1 (.int .i64 gr)).set 2 (.int .i64 gs)).set 3 (.string gi))
    have HT13 : Hid (Blk ((((wa12.setCell ⟨nG, 0, none⟩ (.int .i64 gh)).setCell ⟨nG, 1, none⟩ (.int .i64 gr)).setCell ⟨nG, 2, none⟩ (.int .i64 gs)).setCell ⟨nG, 3, none⟩ (.string gi)) nT [.int .i64 0, .int .i64 0, .int .i64 0, .string ⟨#[]⟩, .int .i64 0] 31) := HT12.out.grown KG13.out (fun e => by injection e with e; omega)
    have HQ13 : Hid (Rdd ((((wa12.setCell ⟨nG, 0, none⟩ (.int .i64 gh)).setCell ⟨nG, 1, none⟩ (.int .i64 gr)).setCell ⟨nG, 2, none⟩ (.int .i64 gs)).setCell ⟨nG, 3, none⟩ (.string gi)) w.heap.size nS zo qa) := HQ12.out.grown KG13.out (fun j e => by injection e with e; omega)
    have HA13 : Hid (Rdd ((((wa12.setCell ⟨nG, 0, none⟩ (.int .i64 gh)).setCell ⟨nG, 1, none⟩ (.int .i64 gr)).setCell ⟨nG, 2, none⟩ (.int .i64 gs)).setCell ⟨nG, 3, none⟩ (.string gi)) w.heap.size nX xo ia) := HA12.out.grown KG13.out (fun j e => by injection e with e; omega)
    have HB13 : Hid (Below w.heap.size w ((((wa12.setCell ⟨nG, 0, none⟩ (.int .i64 gh)).setCell ⟨nG, 1, none⟩ (.int .i64 gr)).setCell ⟨nG, 2, none⟩ (.int .i64 gs)).setCell ⟨nG, 3, none⟩ (.string gi))) := HB12.out.grown KG13.out HB12.out.size (fun j e => by injection e with e; omega)
    have cT_0_13 := HT13.out.cell 0 rfl
    have cT_1_13 := HT13.out.cell 1 rfl
    have cT_2_13 := HT13.out.cell 2 rfl
    have cT_3_13 := HT13.out.cell 3 rfl
    have cT_4_13 := HT13.out.cell 4 rfl
    have zT_13 := fun j => HT13.out.frozen j
    have KG14 : Hid (((((wa12.setCell ⟨nG, 0, none⟩ (.int .i64 gh)).setCell ⟨nG, 1, none⟩ (.int .i64 gr)).setCell ⟨nG, 2, none⟩ (.int .i64 gs)).setCell ⟨nG, 3, none⟩ (.string gi)).grownBy (((((((((wa12.setCell ⟨nG, 0, none⟩ (.int .i64 gh)).setCell ⟨nG, 1, none⟩ (.int .i64 gr)).setCell ⟨nG, 2, none⟩ (.int .i64 gs)).setCell ⟨nG, 3, none⟩ (.string gi)).setCell ⟨nT, 0, none⟩ (.int .i64 th)).setCell ⟨nT, 1, none⟩ (.int .i64 tr)).setCell ⟨nT, 2, none⟩ (.int .i64 ts)).setCell ⟨nT, 3, none⟩ (.string ti)).setCell ⟨nT, 4, none⟩ (.int .i64 tv)) (some nT)) := grown_set (grown_set (grown_set (grown_set (grown_set (grown_refl _ _) _) _) _) _) _
    have HS14 : Hid (Blk (((((((((wa12.setCell ⟨nG, 0, none⟩ (.int .i64 gh)).setCell ⟨nG, 1, none⟩ (.int .i64 gr)).setCell ⟨nG, 2, none⟩ (.int .i64 gs)).setCell ⟨nG, 3, none⟩ (.string gi)).setCell ⟨nT, 0, none⟩ (.int .i64 th)).setCell ⟨nT, 1, none⟩ (.int .i64 tr)).setCell ⟨nT, 2, none⟩ (.int .i64 ts)).setCell ⟨nT, 3, none⟩ (.string ti)).setCell ⟨nT, 4, none⟩ (.int .i64 tv)) nS [.int .i64 zv, .int .i64 xdh, .int .i64 xdr, .int .i64 xds, .string xdi, .int .i64 xmh, .int .i64 xmr, .int .i64 xms, .string xmi, .bool zp, .slice qa zo.length qc] 29) := HS13.out.grown KG14.out (fun e => by injection e with e; omega)
    have HV14 : Hid (Blk (((((((((wa12.setCell ⟨nG, 0, none⟩ (.int .i64 gh)).setCell ⟨nG, 1, none⟩ (.int .i64 gr)).setCell ⟨nG, 2, none⟩ (.int .i64 gs)).setCell ⟨nG, 3, none⟩ (.string gi)).setCell ⟨nT, 0, none⟩ (.int .i64 th)).setCell ⟨nT, 1, none⟩ (.int .i64 tr)).setCell ⟨nT, 2, none⟩ (.int .i64 ts)).setCell ⟨nT, 3, none⟩ (.string ti)).setCell ⟨nT, 4, none⟩ (.int .i64 tv)) nV [.int .i64 yh, .int .i64 yr, .int .i64 ys, .string yi, .int .i64 yv] 31) := HV13.out.grown KG14.out (fun e => by injection e with e; omega)
    have HX14 : Hid (Blk (((((((((wa12.setCell ⟨nG, 0, none⟩ (.int .i64 gh)).setCell ⟨nG, 1, none⟩ (.int .i64 gr)).setCell ⟨nG, 2, none⟩ (.int .i64 gs)).setCell ⟨nG, 3, none⟩ (.string gi)).setCell ⟨nT, 0, none⟩ (.int .i64 th)).setCell ⟨nT, 1, none⟩ (.int .i64 tr)).setCell ⟨nT, 2, none⟩ (.int .i64 ts)).setCell ⟨nT, 3, none⟩ (.string ti)).setCell ⟨nT, 4, none⟩ (.int .i64 tv)) nX [.int .i64 xv, .int .i64 xdh, .int .i64 xdr, .int .i64 xds, .string xdi, .int .i64 xmh, .int .i64 xmr, .int .i64 xms, .string xmi, .bool xp, .slice ia xo.length ic] 29) := HX13.out.grown KG14.out (fun e => by injection e with e; omega)
    have HJ14 : Hid (Blk (((((((((wa12.setCell ⟨nG, 0, none⟩ (.int .i64 gh)).setCell ⟨nG, 1, none⟩ (.int .i64 gr)).setCell ⟨nG, 2, none⟩ (.int .i64 gs)).setCell ⟨nG, 3, none⟩ (.string gi)).setCell ⟨nT, 0, none⟩ (.int .i64 th)).setCell ⟨nT, 1, none⟩ (.int .i64 tr)).setCell ⟨nT, 2, none⟩ (.int .i64 ts)).setCell ⟨nT, 3, none⟩ (.string ti)).setCell ⟨nT, 4, none⟩ (.int .i64 tv)) nJ [.int .i64 xv, .int .i64 xdh, .int .i64 xdr, .int .i64 xds, .string xdi, .int .i64 xmh, .int .i64 xmr, .int .i64 xms, .string xmi, .bool xp, .slice ja xo.length jc] 29) := HJ13.out.grown KG14.out (fun e => by injection e with e; omega)
    have HG14 : Hid (Blk (((((((((wa12.setCell ⟨nG, 0, none⟩ (.int .i64 gh)).setCell ⟨nG, 1, none⟩ (.int .i64 gr)).setCell ⟨nG, 2, none⟩ (.int .i64 gs)).setCell ⟨nG, 3, none⟩ (.string gi)).setCell ⟨nT, 0, none⟩ (.int .i64 th)).setCell ⟨nT, 1, none⟩ (.int .i64 tr)).setCell ⟨nT, 2, none⟩ (.int .i64 ts)).setCell ⟨nT, 3, none⟩ (.string ti)).setCell ⟨nT, 4, none⟩ (.int .i64 tv)) nG [.int .i64 gh, .int .i64 gr, .int .i64 gs, .string gi] 26) := HG13.out.grown KG14.out (fun e => by injection e with e; omega)
    have HT14 : Hid (Blk (((((((((wa12.setCell ⟨nG, 0, none⟩ (.int .i64 gh)).setCell ⟨nG, 1, none⟩ (.int .i64 gr)).setCell ⟨nG, 2, none⟩ (.int .i64 gs)).setCell ⟨nG, 3, none⟩ (.string gi)).setCell ⟨nT, 0, none⟩ (.int .i64 th)).setCell ⟨nT, 1, none⟩ (.int .i64 tr)).setCell ⟨nT, 2, none⟩ (.int .i64 ts)).setCell ⟨nT, 3, none⟩ (.string ti)).setCell ⟨nT, 4, none⟩ (.int .i64 tv)) nT [.int .i64 th, .int .i64 tr, .int .i64 ts, .string ti, .int .i64 tv] 31) := (((((HT13.out.set 0 (.int .i64 th)).set 1 (.int .i64 tr)).set 2 (.int .i64 ts)).set 3 (.string ti)).set 4 (.int .i64 tv))
    have HQ14 : Hid (Rdd (((((((((wa12.setCell ⟨nG, 0, none⟩ (.int .i64 gh)).setCell ⟨nG, 1, none⟩ (.int .i64 gr)).setCell ⟨nG, 2, none⟩ (.int .i64 gs)).setCell ⟨nG, 3, none⟩ (.string gi)).setCell ⟨nT, 0, none⟩ (.int .i64 th)).setCell ⟨nT, 1, none⟩ (.int .i64 tr)).setCell ⟨nT, 2, none⟩ (.int .i64 ts)).setCell ⟨nT, 3, none⟩ (.string ti)).setCell ⟨nT, 4, none⟩ (.int .i64 tv)) w.heap.size nS zo qa) := HQ13.out.grown KG14.out (fun j e => by injection e with e; omega)
    have HA14 : Hid (Rdd (((((((((wa12.setCell ⟨nG, 0, none⟩ (.int .i64 gh)).setCell ⟨nG, 1, none⟩ (.int .i64 gr)).setCell ⟨nG, 2, none⟩ (.int .i64 gs)).setCell ⟨nG, 3, none⟩ (.string gi)).setCell ⟨nT, 0, none⟩ (.int .i64 th)).setCell ⟨nT, 1, none⟩ (.int .i64 tr)).setCell ⟨nT, 2, none⟩ (.int .i64 ts)).setCell ⟨nT, 3, none⟩ (.string ti)).setCell ⟨nT, 4, none⟩ (.int .i64 tv)) w.heap.size nX xo ia) := HA13.out.grown KG14.out (fun j e => by injection e with e; omega)
    have HB14 : Hid (Below w.heap.size w (((((((((wa12.setCell ⟨nG, 0, none⟩ (.int .i64 gh)).setCell ⟨nG, 1, none⟩ (.int .i64 gr)).setCell ⟨nG, 2, none⟩ (.int .i64 gs)).setCell ⟨nG, 3, none⟩ (.string gi)).setCell ⟨nT, 0, none⟩ (.int .i64 th)).setCell ⟨nT, 1, none⟩ (.int .i64 tr)).setCell ⟨nT, 2, none⟩ (.int .i64 ts)).setCell ⟨nT, 3, none⟩ (.string ti)).setCell ⟨nT, 4, none⟩ (.int .i64 tv))) := HB13.out.grown KG14.out HB13.out.size (fun j e => by injection e with e; omega)
    go_upto_region 7 with fail
    clear hwa11 hnG hwa12 hnT cG_0_12 cG_1_12 cG_2_12 cG_3_12 cT_0_12 cT_1_12 cT_2_12 cT_3_12 cT_4_12 zG_12 zT_12 cT_0_13 cT_1_13 cT_2_13 cT_3_13 cT_4_13 zT_13
    clear HS12 HV12 HX12 HJ12 HG12 HT12 HB12 HQ12 HA12 KG13 HS13 HV13 HX13 HJ13 HG13 HT13 HB13 HQ13 HA13 KG14
    generalize (((((((((wa12.setCell ⟨nG, 0, none⟩ (.int .i64 gh)).setCell ⟨nG, 1, none⟩ (.int .i64 gr)).setCell ⟨nG, 2, none⟩ (.int .i64 gs)).setCell ⟨nG, 3, none⟩ (.string gi)).setCell ⟨nT, 0, none⟩ (.int .i64 th)).setCell ⟨nT, 1, none⟩ (.int .i64 tr)).setCell ⟨nT, 2, none⟩ (.int .i64 ts)).setCell ⟨nT, 3, none⟩ (.string ti)).setCell ⟨nT, 4, none⟩ (.int .i64 tv)) = w13 at *
    have hcc : ((c : Int) != c) = false := by simp
    have cG_0_14 := HG14.out.cell 0 rfl
    have cG_1_14 := HG14.out.cell 1 rfl
    have cG_2_14 := HG14.out.cell 2 rfl
    have cG_3_14 := HG14.out.cell 3 rfl
    have cT_0_14 := HT14.out.cell 0 rfl
    have cT_1_14 := HT14.out.cell 1 rfl
    have cT_2_14 := HT14.out.cell 2 rfl
    have cT_3_14 := HT14.out.cell 3 rfl
    have cT_4_14 := HT14.out.cell 4 rfl
    go_wp2_with fail
    clear cG_0_14 cG_1_14 cG_2_14 cG_3_14 cT_0_14 cT_1_14 cT_2_14 cT_3_14 cT_4_14
    have HS15 : Hid (Blk w13.drew nS [.int .i64 zv, .int .i64 xdh, .int .i64 xdr, .int .i64 xds, .string xdi, .int .i64 xmh, .int .i64 xmr, .int .i64 xms, .string xmi, .bool zp, .slice qa zo.length qc] 29) := HS14.out.below (Below.refl _ _).drew HS14.out.lt
    have HV15 : Hid (Blk w13.drew nV [.int .i64 yh, .int .i64 yr, .int .i64 ys, .string yi, .int .i64 yv] 31) := HV14.out.below (Below.refl _ _).drew HV14.out.lt
    have HX15 : Hid (Blk w13.drew nX [.int .i64 xv, .int .i64 xdh, .int .i64 xdr, .int .i64 xds, .string xdi, .int .i64 xmh, .int .i64 xmr, .int .i64 xms, .string xmi, .bool xp, .slice ia xo.length ic] 29) := HX14.out.below (Below.refl _ _).drew HX14.out.lt
    have HJ15 : Hid (Blk w13.drew nJ [.int .i64 xv, .int .i64 xdh, .int .i64 xdr, .int .i64 xds, .string xdi, .int .i64 xmh, .int .i64 xmr, .int .i64 xms, .string xmi, .bool xp, .slice ja xo.length jc] 29) := HJ14.out.below (Below.refl _ _).drew HJ14.out.lt
    have HG15 : Hid (Blk w13.drew nG [.int .i64 gh, .int .i64 gr, .int .i64 gs, .string gi] 26) := HG14.out.below (Below.refl _ _).drew HG14.out.lt
    have HT15 : Hid (Blk w13.drew nT [.int .i64 th, .int .i64 tr, .int .i64 ts, .string ti, .int .i64 tv] 31) := HT14.out.below (Below.refl _ _).drew HT14.out.lt
    have HQ15 : Hid (Rdd w13.drew w.heap.size nS zo qa) := HQ14.out.below (Below.refl _ _).drew
    have HA15 : Hid (Rdd w13.drew w.heap.size nX xo ia) := HA14.out.below (Below.refl _ _).drew
    have HB15 : Hid (Below w.heap.size w w13.drew) := HB14.out.trans (((Below.refl _ _).drew).mono HB14.out.size)
    clear HS14 HV14 HX14 HJ14 HG14 HT14 HB14 HQ14 HA14
    go_region_held3 (fun W : World => W.cell? ⟨nS, 0, none⟩ = some (.int .i64 zv) ∧ W.cell? ⟨nS, 1, none⟩ = some (.int .i64 xdh) ∧ W.cell? ⟨nS, 2, none⟩ = some (.int .i64 xdr) ∧ W.cell? ⟨nS, 3, none⟩ = some (.int .i64 xds) ∧ W.cell? ⟨nS, 4, none⟩ = some (.string xdi) ∧ W.cell? ⟨nS, 5, none⟩ = some (.int .i64 xmh) ∧ W.cell? ⟨nS, 6, none⟩ = some (.int .i64 xmr) ∧ W.cell? ⟨nS, 7, none⟩ = some (.int .i64 xms) ∧ W.cell? ⟨nS, 8, none⟩ = some (.string xmi) ∧ W.cell? ⟨nS, 9, none⟩ = some (.bool zp) ∧ W.cell? ⟨nS, 10, none⟩ = some (.slice qa zo.length qc) ∧ W.cell? ⟨nV, 0, none⟩ = some (.int .i64 yh) ∧ W.cell? ⟨nV, 1, none⟩ = some (.int .i64 yr) ∧ W.cell? ⟨nV, 2, none⟩ = some (.int .i64 ys) ∧ W.cell? ⟨nV, 3, none⟩ = some (.string yi) ∧ W.cell? ⟨nV, 4, none⟩ = some (.int .i64 yv) ∧ W.cell? ⟨nX, 0, none⟩ = some (.int .i64 xv) ∧ W.cell? ⟨nX, 1, none⟩ = some (.int .i64 xdh) ∧ W.cell? ⟨nX, 2, none⟩ = some (.int .i64 xdr) ∧ W.cell? ⟨nX, 3, none⟩ = some (.int .i64 xds) ∧ W.cell? ⟨nX, 4, none⟩ = some (.string xdi) ∧ W.cell? ⟨nX, 5, none⟩ = some (.int .i64 xmh) ∧ W.cell? ⟨nX, 6, none⟩ = some (.int .i64 xmr) ∧ W.cell? ⟨nX, 7, none⟩ = some (.int .i64 xms) ∧ W.cell? ⟨nX, 8, none⟩ = some (.string xmi) ∧ W.cell? ⟨nX, 9, none⟩ = some (.bool xp) ∧ W.cell? ⟨nX, 10, none⟩ = some (.slice ia xo.length ic) ∧ W.cell? ⟨nJ, 0, none⟩ = some (.int .i64 xv) ∧ W.cell? ⟨nJ, 1, none⟩ = some (.int .i64 xdh) ∧ W.cell? ⟨nJ, 2, none⟩ = some (.int .i64 xdr) ∧ W.cell? ⟨nJ, 3, none⟩ = some (.int .i64 xds) ∧ W.cell? ⟨nJ, 4, none⟩ = some (.string xdi) ∧ W.cell? ⟨nJ, 5, none⟩ = some (.int .i64 xmh) ∧ W.cell? ⟨nJ, 6, none⟩ = some (.int .i64 xmr) ∧ W.cell? ⟨nJ, 7, none⟩ = some (.int .i64 xms) ∧ W.cell? ⟨nJ, 8, none⟩ = some (.string xmi) ∧ W.cell? ⟨nJ, 9, none⟩ = some (.bool xp) ∧ W.cell? ⟨nJ, 10, none⟩ = some (.slice ja xo.length jc) ∧ W.cell? ⟨nG, 0, none⟩ = some (.int .i64 gh) ∧ W.cell? ⟨nG, 1, none⟩ = some (.int .i64 gr) ∧ W.cell? ⟨nG, 2, none⟩ = some (.int .i64 gs) ∧ W.cell? ⟨nG, 3, none⟩ = some (.string gi) ∧ W.cell? ⟨nT, 0, none⟩ = some (.int .i64 th) ∧ W.cell? ⟨nT, 1, none⟩ = some (.int .i64 tr) ∧ W.cell? ⟨nT, 2, none⟩ = some (.int .i64 ts) ∧ W.cell? ⟨nT, 3, none⟩ = some (.string ti) ∧ W.cell? ⟨nT, 4, none⟩ = some (.int .i64 tv)) (first | assumption | exact ⟨HS17.out.cell 0 rfl, HS17.out.cell 1 rfl, HS17.out.cell 2 rfl, HS17.out.cell 3 rfl, HS17.out.cell 4 rfl, HS17.out.cell 5 rfl, HS17.out.cell 6 rfl, HS17.out.cell 7 rfl, HS17.out.cell 8 rfl, HS17.out.cell 9 rfl, HS17.out.cell 10 rfl, HV17.out.cell 0 rfl, HV17.out.cell 1 rfl, HV17.out.cell 2 rfl, HV17.out.cell 3 rfl, HV17.out.cell 4 rfl, HX17.out.cell 0 rfl, HX17.out.cell 1 rfl, HX17.out.cell 2 rfl, HX17.out.cell 3 rfl, HX17.out.cell 4 rfl, HX17.out.cell 5 rfl, HX17.out.cell 6 rfl, HX17.out.cell 7 rfl, HX17.out.cell 8 rfl, HX17.out.cell 9 rfl, HX17.out.cell 10 rfl, HJ17.out.cell 0 rfl, HJ17.out.cell 1 rfl, HJ17.out.cell 2 rfl, HJ17.out.cell 3 rfl, HJ17.out.cell 4 rfl, HJ17.out.cell 5 rfl, HJ17.out.cell 6 rfl, HJ17.out.cell 7 rfl, HJ17.out.cell 8 rfl, HJ17.out.cell 9 rfl, HJ17.out.cell 10 rfl, HG17.out.cell 0 rfl, HG17.out.cell 1 rfl, HG17.out.cell 2 rfl, HG17.out.cell 3 rfl, HT17.out.cell 0 rfl, HT17.out.cell 1 rfl, HT17.out.cell 2 rfl, HT17.out.cell 3 rfl, HT17.out.cell 4 rfl⟩ | exact ⟨HS16.out.cell 0 rfl, HS16.out.cell 1 rfl, HS16.out.cell 2 rfl, HS16.out.cell 3 rfl, HS16.out.cell 4 rfl, HS16.out.cell 5 rfl, HS16.out.cell 6 rfl, HS16.out.cell 7 rfl, HS16.out.cell 8 rfl, HS16.out.cell 9 rfl, HS16.out.cell 10 rfl, HV16.out.cell 0 rfl, HV16.out.cell 1 rfl, HV16.out.cell 2 rfl, HV16.out.cell 3 rfl, HV16.out.cell 4 rfl, HX16.out.cell 0 rfl, HX16.out.cell 1 rfl, HX16.out.cell 2 rfl, HX16.out.cell 3 rfl, HX16.out.cell 4 rfl, HX16.out.cell 5 rfl, HX16.out.cell 6 rfl, HX16.out.cell 7 rfl, HX16.out.cell 8 rfl, HX16.out.cell 9 rfl, HX16.out.cell 10 rfl, HJ16.out.cell 0 rfl, HJ16.out.cell 1 rfl, HJ16.out.cell 2 rfl, HJ16.out.cell 3 rfl, HJ16.out.cell 4 rfl, HJ16.out.cell 5 rfl, HJ16.out.cell 6 rfl, HJ16.out.cell 7 rfl, HJ16.out.cell 8 rfl, HJ16.out.cell 9 rfl, HJ16.out.cell 10 rfl, HG16.out.cell 0 rfl, HG16.out.cell 1 rfl, HG16.out.cell 2 rfl, HG16.out.cell 3 rfl, HT16.out.cell 0 rfl, HT16.out.cell 1 rfl, HT16.out.cell 2 rfl, HT16.out.cell 3 rfl, HT16.out.cell 4 rfl⟩ | exact ⟨HS15.out.cell 0 rfl, HS15.out.cell 1 rfl, HS15.out.cell 2 rfl, HS15.out.cell 3 rfl, HS15.out.cell 4 rfl, HS15.out.cell 5 rfl, HS15.out.cell 6 rfl, HS15.out.cell 7 rfl, HS15.out.cell 8 rfl, HS15.out.cell 9 rfl, HS15.out.cell 10 rfl, HV15.out.cell 0 rfl, HV15.out.cell 1 rfl, HV15.out.cell 2 rfl, HV15.out.cell 3 rfl, HV15.out.cell 4 rfl, HX15.out.cell 0 rfl, HX15.out.cell 1 rfl, HX15.out.cell 2 rfl, HX15.out.cell 3 rfl, HX15.out.cell 4 rfl, HX15.out.cell 5 rfl, HX15.out.cell 6 rfl, HX15.out.cell 7 rfl, HX15.out.cell 8 rfl, HX15.out.cell 9 rfl, HX15.out.cell 10 rfl, HJ15.out.cell 0 rfl, HJ15.out.cell 1 rfl, HJ15.out.cell 2 rfl, HJ15.out.cell 3 rfl, HJ15.out.cell 4 rfl, HJ15.out.cell 5 rfl, HJ15.out.cell 6 rfl, HJ15.out.cell 7 rfl, HJ15.out.cell 8 rfl, HJ15.out.cell 9 rfl, HJ15.out.cell 10 rfl, HG15.out.cell 0 rfl, HG15.out.cell 1 rfl, HG15.out.cell 2 rfl, HG15.out.cell 3 rfl, HT15.out.cell 0 rfl, HT15.out.cell 1 rfl, HT15.out.cell 2 rfl, HT15.out.cell 3 rfl, HT15.out.cell 4 rfl⟩) (first | (go_at_call 21; refine (kP _).mono ?_; rintro e w14 ⟨rfl, bb14⟩; have HS16 : Hid (Blk w14 nS [.int .i64 zv, .int .i64 xdh, .int .i64 xdr, .int .i64 xds, .string xdi, .int .i64 xmh, .int .i64 xmr, .int .i64 xms, .string xmi, .bool zp, .slice qa zo.length qc] 29) := HS15.out.below bb14 HS15.out.lt; have HV16 : Hid (Blk w14 nV [.int .i64 yh, .int .i64 yr, .int .i64 ys, .string yi, .int .i64 yv] 31) := HV15.out.below bb14 HV15.out.lt; have HX16 : Hid (Blk w14 nX [.int .i64 xv, .int .i64 xdh, .int .i64 xdr, .int .i64 xds, .string xdi, .int .i64 xmh, .int .i64 xmr, .int .i64 xms, .string xmi, .bool xp, .slice ia xo.length ic] 29) := HX15.out.below bb14 HX15.out.lt; have HJ16 : Hid (Blk w14 nJ [.int .i64 xv, .int .i64 xdh, .int .i64 xdr, .int .i64 xds, .string xdi, .int .i64 xmh, .int .i64 xmr, .int .i64 xms, .string xmi, .bool xp, .slice ja xo.length jc] 29) := HJ15.out.below bb14 HJ15.out.lt; have HG16 : Hid (Blk w14 nG [.int .i64 gh, .int .i64 gr, .int .i64 gs, .string gi] 26) := HG15.out.below bb14 HG15.out.lt; have HT16 : Hid (Blk w14 nT [.int .i64 th, .int .i64 tr, .int .i64 ts, .string ti, .int .i64 tv] 31) := HT15.out.below bb14 HT15.out.lt; have HQ16 : Hid (Rdd w14 w.heap.size nS zo qa) := HQ15.out.below bb14; have HA16 : Hid (Rdd w14 w.heap.size nX xo ia) := HA15.out.below bb14; have HB16 : Hid (Below w.heap.size w w14) := HB15.out.trans (bb14.mono HB15.out.size)) | (go_at_call 22; refine (kR _).mono ?_; rintro e w15 ⟨rfl, bb15⟩; have HS17 : Hid (Blk w15 nS [.int .i64 zv, .int .i64 xdh, .int .i64 xdr, .int .i64 xds, .string xdi, .int .i64 xmh, .int .i64 xmr, .int .i64 xms, .string xmi, .bool zp, .slice qa zo.length qc] 29) := HS16.out.below bb15 HS16.out.lt; have HV17 : Hid (Blk w15 nV [.int .i64 yh, .int .i64 yr, .int .i64 ys, .string yi, .int .i64 yv] 31) := HV16.out.below bb15 HV16.out.lt; have HX17 : Hid (Blk w15 nX [.int .i64 xv, .int .i64 xdh, .int .i64 xdr, .int .i64 xds, .string xdi, .int .i64 xmh, .int .i64 xmr, .int .i64 xms, .string xmi, .bool xp, .slice ia xo.length ic] 29) := HX16.out.below bb15 HX16.out.lt; have HJ17 : Hid (Blk w15 nJ [.int .i64 xv, .int .i64 xdh, .int .i64 xdr, .int .i64 xds, .string xdi, .int .i64 xmh, .int .i64 xmr, .int .i64 xms, .string xmi, .bool xp, .slice ja xo.length jc] 29) := HJ16.out.below bb15 HJ16.out.lt; have HG17 : Hid (Blk w15 nG [.int .i64 gh, .int .i64 gr, .int .i64 gs, .string gi] 26) := HG16.out.below bb15 HG16.out.lt; have HT17 : Hid (Blk w15 nT [.int .i64 th, .int .i64 tr, .int .i64 ts, .string ti, .int .i64 tv] 31) := HT16.out.below bb15 HT16.out.lt; have HQ17 : Hid (Rdd w15 w.heap.size nS zo qa) := HQ16.out.below bb15; have HA17 : Hid (Rdd w15 w.heap.size nX xo ia) := HA16.out.below bb15; have HB17 : Hid (Below w.heap.size w w15) := HB16.out.trans (bb15.mono HB16.out.size)))
    clear HS15 HV15 HX15 HJ15 HG15 HT15 HB15 HQ15 HA15 bb14 HS16 HV16 HX16 HJ16 HG16 HT16 HB16 HQ16 HA16 bb15
    clear kP kR
    have cS_0_17 := HS17.out.cell 0 rfl
    have cS_1_17 := HS17.out.cell 1 rfl
    have cS_2_17 := HS17.out.cell 2 rfl
    have cS_3_17 := HS17.out.cell 3 rfl
    have cS_4_17 := HS17.out.cell 4 rfl
    have cS_5_17 := HS17.out.cell 5 rfl
    have cS_6_17 := HS17.out.cell 6 rfl
    have cS_7_17 := HS17.out.cell 7 rfl
    have cS_8_17 := HS17.out.cell 8 rfl
    have cS_9_17 := HS17.out.cell 9 rfl
    have cS_10_17 := HS17.out.cell 10 rfl
    go_wp2_with fail
    clear cS_0_17 cS_1_17 cS_2_17 cS_3_17 cS_4_17 cS_5_17 cS_6_17 cS_7_17 cS_8_17 cS_9_17 cS_10_17
    refine (kS _ HQ17.out.1).mono ?_
    rintro e w16 ⟨rfl, bb⟩
    have HS18 : Hid (Blk w16 nS [.int .i64 zv, .int .i64 xdh, .int .i64 xdr, .int .i64 xds, .string xdi, .int .i64 xmh, .int .i64 xmr, .int .i64 xms, .string xmi, .bool zp, .slice qa zo.length qc] 29) := HS17.out.below bb HS17.out.lt
    have HV18 : Hid (Blk w16 nV [.int .i64 yh, .int .i64 yr, .int .i64 ys, .string yi, .int .i64 yv] 31) := HV17.out.below bb HV17.out.lt
    have HX18 : Hid (Blk w16 nX [.int .i64 xv, .int .i64 xdh, .int .i64 xdr, .int .i64 xds, .string xdi, .int .i64 xmh, .int .i64 xmr, .int .i64 xms, .string xmi, .bool xp, .slice ia xo.length ic] 29) := HX17.out.below bb HX17.out.lt
    have HJ18 : Hid (Blk w16 nJ [.int .i64 xv, .int .i64 xdh, .int .i64 xdr, .int .i64 xds, .string xdi, .int .i64 xmh, .int .i64 xmr, .int .i64 xms, .string xmi, .bool xp, .slice ja xo.length jc] 29) := HJ17.out.below bb HJ17.out.lt
    have HG18 : Hid (Blk w16 nG [.int .i64 gh, .int .i64 gr, .int .i64 gs, .string gi] 26) := HG17.out.below bb HG17.out.lt
    have HT18 : Hid (Blk w16 nT [.int .i64 th, .int .i64 tr, .int .i64 ts, .string ti, .int .i64 tv] 31) := HT17.out.below bb HT17.out.lt
    have HQ18 : Hid (Rdd w16 w.heap.size nS zo qa) := HQ17.out.below bb
    have HA18 : Hid (Rdd w16 w.heap.size nX xo ia) := HA17.out.below bb
    have HB18 : Hid (Below w.heap.size w w16) := HB17.out.trans (bb.mono HB17.out.size)
    clear HS17 HV17 HX17 HJ17 HG17 HT17 HB17 HQ17 HA17
    clear bb
    clear kS
    have cS_0_18 := HS18.out.cell 0 rfl
    have cS_1_18 := HS18.out.cell 1 rfl
    have cS_2_18 := HS18.out.cell 2 rfl
    have cS_3_18 := HS18.out.cell 3 rfl
    have cS_4_18 := HS18.out.cell 4 rfl
    have cS_5_18 := HS18.out.cell 5 rfl
    have cS_6_18 := HS18.out.cell 6 rfl
    have cS_7_18 := HS18.out.cell 7 rfl
    have cS_8_18 := HS18.out.cell 8 rfl
    have cS_9_18 := HS18.out.cell 9 rfl
    have cS_10_18 := HS18.out.cell 10 rfl
    go_wp2_with fail
    clear cS_0_18 cS_1_18 cS_2_18 cS_3_18 cS_4_18 cS_5_18 cS_6_18 cS_7_18 cS_8_18 cS_9_18 cS_10_18
    refine (kY _ HQ18.out.1).mono ?_
    rintro e w17 ⟨ua, uc, rfl, HQ, bb⟩
    have HU1 : Hid (Rdd w17 w.heap.size w17.heap.size uo ua) := OwnY.rdd2 (own_less HQ.out HB18.out.size)
    clear HQ
    have HS19 : Hid (Blk w17 nS [.int .i64 zv, .int .i64 xdh, .int .i64 xdr, .int .i64 xds, .string xdi, .int .i64 xmh, .int .i64 xmr, .int .i64 xms, .string xmi, .bool zp, .slice qa zo.length qc] 29) := HS18.out.below bb HS18.out.lt
    have HV19 : Hid (Blk w17 nV [.int .i64 yh, .int .i64 yr, .int .i64 ys, .string yi, .int .i64 yv] 31) := HV18.out.below bb HV18.out.lt
    have HX19 : Hid (Blk w17 nX [.int .i64 xv, .int .i64 xdh, .int .i64 xdr, .int .i64 xds, .string xdi, .int .i64 xmh, .int .i64 xmr, .int .i64 xms, .string xmi, .bool xp, .slice ia xo.length ic] 29) := HX18.out.below bb HX18.out.lt
    have HJ19 : Hid (Blk w17 nJ [.int .i64 xv, .int .i64 xdh, .int .i64 xdr, .int .i64 xds, .string xdi, .int .i64 xmh, .int .i64 xmr, .int .i64 xms, .string xmi, .bool xp, .slice ja xo.length jc] 29) := HJ18.out.below bb HJ18.out.lt
    have HG19 : Hid (Blk w17 nG [.int .i64 gh, .int .i64 gr, .int .i64 gs, .string gi] 26) := HG18.out.below bb HG18.out.lt
    have HT19 : Hid (Blk w17 nT [.int .i64 th, .int .i64 tr, .int .i64 ts, .string ti, .int .i64 tv] 31) := HT18.out.below bb HT18.out.lt
    have HQ19 : Hid (Rdd w17 w.heap.size nS zo qa) := HQ18.out.below bb
    have HA19 : Hid (Rdd w17 w.heap.size nX xo ia) := HA18.out.below bb
    have HB19 : Hid (Below w.heap.size w w17) := HB18.out.trans (bb.mono HB18.out.size)
    clear HS18 HV18 HX18 HJ18 HG18 HT18 HB18 HQ18 HA18
    clear bb
    clear kY
    obtain ⟨nU, hnU⟩ : ∃ n, w17.heap.size = n := ⟨_, rfl⟩
    have hnUS : nS < nU := by rw [← hnU]; exact HS19.out.lt
    have hnUV : nV < nU := by rw [← hnU]; exact HV19.out.lt
    have hnUX : nX < nU := by rw [← hnU]; exact HX19.out.lt
    have hnUJ : nJ < nU := by rw [← hnU]; exact HJ19.out.lt
    have hnUG : nG < nU := by rw [← hnU]; exact HG19.out.lt
    have hnUT : nT < nU := by rw [← hnU]; exact HT19.out.lt
    have HE0 : Hid (Rdd w17 w.heap.size nU uo ua) := by rw [← hnU]; exact HU1.out
    clear HU1
    obtain ⟨wa18, hwa18⟩ : ∃ W, w17.alloc (.cells #[.int .i64 uv, .int .i64 udh, .int .i64 udr, .int .i64 uds, .string udi, .int .i64 umh, .int .i64 umr, .int .i64 ums, .string umi, .bool up, .slice ua uo.length uc] 29) = W := ⟨_, rfl⟩
    have HAnU : Hid (Below w17.heap.size w17 wa18) := by rw [← hwa18]; exact below_one _ _
    have HS20 : Hid (Blk wa18 nS [.int .i64 zv, .int .i64 xdh, .int .i64 xdr, .int .i64 xds, .string xdi, .int .i64 xmh, .int .i64 xmr, .int .i64 xms, .string xmi, .bool zp, .slice qa zo.length qc] 29) := HS19.out.below HAnU.out HS19.out.lt
    have HV20 : Hid (Blk wa18 nV [.int .i64 yh, .int .i64 yr, .int .i64 ys, .string yi, .int .i64 yv] 31) := HV19.out.below HAnU.out HV19.out.lt
    have HX20 : Hid (Blk wa18 nX [.int .i64 xv, .int .i64 xdh, .int .i64 xdr, .int .i64 xds, .string xdi, .int .i64 xmh, .int .i64 xmr, .int .i64 xms, .string xmi, .bool xp, .slice ia xo.length ic] 29) := HX19.out.below HAnU.out HX19.out.lt
    have HJ20 : Hid (Blk wa18 nJ [.int .i64 xv, .int .i64 xdh, .int .i64 xdr, .int .i64 xds, .string xdi, .int .i64 xmh, .int .i64 xmr, .int .i64 xms, .string xmi, .bool xp, .slice ja xo.length jc] 29) := HJ19.out.below HAnU.out HJ19.out.lt
    have HG20 : Hid (Blk wa18 nG [.int .i64 gh, .int .i64 gr, .int .i64 gs, .string gi] 26) := HG19.out.below HAnU.out HG19.out.lt
    have HT20 : Hid (Blk wa18 nT [.int .i64 th, .int .i64 tr, .int .i64 ts, .string ti, .int .i64 tv] 31) := HT19.out.below HAnU.out HT19.out.lt
    have HQ20 : Hid (Rdd wa18 w.heap.size nS zo qa) := HQ19.out.below HAnU.out
    have HA20 : Hid (Rdd wa18 w.heap.size nX xo ia) := HA19.out.below HAnU.out
    have HE20 : Hid (Rdd wa18 w.heap.size nU uo ua) := HE0.out.below HAnU.out
    have HB20 : Hid (Below w.heap.size w wa18) := HB19.out.trans (HAnU.out.mono HB19.out.size)
    have HU20 : Hid (Blk wa18 nU [.int .i64 uv, .int .i64 udh, .int .i64 udr, .int .i64 uds, .string udi, .int .i64 umh, .int .i64 umr, .int .i64 ums, .string umi, .bool up, .slice ua uo.length uc] 29) := by rw [← hwa18, ← hnU]; exact blk_new _ _ _
    clear HAnU HS19 HV19 HX19 HJ19 HG19 HT19 HB19 HQ19 HA19 HE0
    have cS_0_20 := HS20.out.cell 0 rfl
    have cS_1_20 := HS20.out.cell 1 rfl
    have cS_2_20 := HS20.out.cell 2 rfl
    have cS_3_20 := HS20.out.cell 3 rfl
    have cS_4_20 := HS20.out.cell 4 rfl
    have cS_5_20 := HS20.out.cell 5 rfl
    have cS_6_20 := HS20.out.cell 6 rfl
    have cS_7_20 := HS20.out.cell 7 rfl
    have cS_8_20 := HS20.out.cell 8 rfl
    have cS_9_20 := HS20.out.cell 9 rfl
    have cS_10_20 := HS20.out.cell 10 rfl
    have cX_0_20 := HX20.out.cell 0 rfl
    have cX_1_20 := HX20.out.cell 1 rfl
    have cX_2_20 := HX20.out.cell 2 rfl
    have cX_3_20 := HX20.out.cell 3 rfl
    have cX_4_20 := HX20.out.cell 4 rfl
    have cX_5_20 := HX20.out.cell 5 rfl
    have cX_6_20 := HX20.out.cell 6 rfl
    have cX_7_20 := HX20.out.cell 7 rfl
    have cX_8_20 := HX20.out.cell 8 rfl
    have cX_9_20 := HX20.out.cell 9 rfl
    have cX_10_20 := HX20.out.cell 10 rfl
    have cU_0_20 := HU20.out.cell 0 rfl
    have cU_1_20 := HU20.out.cell 1 rfl
    have cU_2_20 := HU20.out.cell 2 rfl
    have cU_3_20 := HU20.out.cell 3 rfl
    have cU_4_20 := HU20.out.cell 4 rfl
    have cU_5_20 := HU20.out.cell 5 rfl
    have cU_6_20 := HU20.out.cell 6 rfl
    have cU_7_20 := HU20.out.cell 7 rfl
    have cU_8_20 := HU20.out.cell 8 rfl
    have cU_9_20 := HU20.out.cell 9 rfl
    have cU_10_20 := HU20.out.cell 10 rfl
    go_wp2_with fail
    clear hwa18 hnU cS_0_20 cS_1_20 cS_2_20 cS_3_20 cS_4_20 cS_5_20 cS_6_20 cS_7_20 cS_8_20 cS_9_20 cS_10_20 cX_0_20 cX_1_20 cX_2_20 cX_3_20 cX_4_20 cX_5_20 cX_6_20 cX_7_20 cX_8_20 cX_9_20 cX_10_20 cU_0_20 cU_1_20 cU_2_20 cU_3_20 cU_4_20 cU_5_20 cU_6_20 cU_7_20 cU_8_20 cU_9_20 cU_10_20
    refine (kX ia ic _ HA20.out.1).mono ?_
    rintro e w19 ⟨rfl, bb⟩
    have HS21 : Hid (Blk w19 nS [.int .i64 zv, .int .i64 xdh, .int .i64 xdr, .int .i64 xds, .string xdi, .int .i64 xmh, .int .i64 xmr, .int .i64 xms, .string xmi, .bool zp, .slice qa zo.length qc] 29) := HS20.out.below bb HS20.out.lt
    have HV21 : Hid (Blk w19 nV [.int .i64 yh, .int .i64 yr, .int .i64 ys, .string yi, .int .i64 yv] 31) := HV20.out.below bb HV20.out.lt
    have HX21 : Hid (Blk w19 nX [.int .i64 xv, .int .i64 xdh, .int .i64 xdr, .int .i64 xds, .string xdi, .int .i64 xmh, .int .i64 xmr, .int .i64 xms, .string xmi, .bool xp, .slice ia xo.length ic] 29) := HX20.out.below bb HX20.out.lt
    have HJ21 : Hid (Blk w19 nJ [.int .i64 xv, .int .i64 xdh, .int .i64 xdr, .int .i64 xds, .string xdi, .int .i64 xmh, .int .i64 xmr, .int .i64 xms, .string xmi, .bool xp, .slice ja xo.length jc] 29) := HJ20.out.below bb HJ20.out.lt
    have HG21 : Hid (Blk w19 nG [.int .i64 gh, .int .i64 gr, .int .i64 gs, .string gi] 26) := HG20.out.below bb HG20.out.lt
    have HT21 : Hid (Blk w19 nT [.int .i64 th, .int .i64 tr, .int .i64 ts, .string ti, .int .i64 tv] 31) := HT20.out.below bb HT20.out.lt
    have HU21 : Hid (Blk w19 nU [.int .i64 uv, .int .i64 udh, .int .i64 udr, .int .i64 uds, .string udi, .int .i64 umh, .int .i64 umr, .int .i64 ums, .string umi, .bool up, .slice ua uo.length uc] 29) := HU20.out.below bb HU20.out.lt
    have HQ21 : Hid (Rdd w19 w.heap.size nS zo qa) := HQ20.out.below bb
    have HA21 : Hid (Rdd w19 w.heap.size nX xo ia) := HA20.out.below bb
    have HE21 : Hid (Rdd w19 w.heap.size nU uo ua) := HE20.out.below bb
    have HB21 : Hid (Below w.heap.size w w19) := HB20.out.trans (bb.mono HB20.out.size)
    clear HS20 HV20 HX20 HJ20 HG20 HT20 HU20 HB20 HQ20 HA20 HE20
    clear bb
    clear kX
    have cS_0_21 := HS21.out.cell 0 rfl
    have cS_1_21 := HS21.out.cell 1 rfl
    have cS_2_21 := HS21.out.cell 2 rfl
    have cS_3_21 := HS21.out.cell 3 rfl
    have cS_4_21 := HS21.out.cell 4 rfl
    have cS_5_21 := HS21.out.cell 5 rfl
    have cS_6_21 := HS21.out.cell 6 rfl
    have cS_7_21 := HS21.out.cell 7 rfl
    have cS_8_21 := HS21.out.cell 8 rfl
    have cS_9_21 := HS21.out.cell 9 rfl
    have cS_10_21 := HS21.out.cell 10 rfl
    have cX_0_21 := HX21.out.cell 0 rfl
    have cX_1_21 := HX21.out.cell 1 rfl
    have cX_2_21 := HX21.out.cell 2 rfl
    have cX_3_21 := HX21.out.cell 3 rfl
    have cX_4_21 := HX21.out.cell 4 rfl
    have cX_5_21 := HX21.out.cell 5 rfl
    have cX_6_21 := HX21.out.cell 6 rfl
    have cX_7_21 := HX21.out.cell 7 rfl
    have cX_8_21 := HX21.out.cell 8 rfl
    have cX_9_21 := HX21.out.cell 9 rfl
    have cX_10_21 := HX21.out.cell 10 rfl
    have cU_0_21 := HU21.out.cell 0 rfl
    have cU_1_21 := HU21.out.cell 1 rfl
    have cU_2_21 := HU21.out.cell 2 rfl
    have cU_3_21 := HU21.out.cell 3 rfl
    have cU_4_21 := HU21.out.cell 4 rfl
    have cU_5_21 := HU21.out.cell 5 rfl
    have cU_6_21 := HU21.out.cell 6 rfl
    have cU_7_21 := HU21.out.cell 7 rfl
    have cU_8_21 := HU21.out.cell 8 rfl
    have cU_9_21 := HU21.out.cell 9 rfl
    have cU_10_21 := HU21.out.cell 10 rfl
    go_wp2_with fail
    clear cS_0_21 cS_1_21 cS_2_21 cS_3_21 cS_4_21 cS_5_21 cS_6_21 cS_7_21 cS_8_21 cS_9_21 cS_10_21 cX_0_21 cX_1_21 cX_2_21 cX_3_21 cX_4_21 cX_5_21 cX_6_21 cX_7_21 cX_8_21 cX_9_21 cX_10_21 cU_0_21 cU_1_21 cU_2_21 cU_3_21 cU_4_21 cU_5_21 cU_6_21 cU_7_21 cU_8_21 cU_9_21 cU_10_21
    refine (kZ ua uc _ HE21.out.1).mono ?_
    rintro e w20 ⟨rfl, bb⟩
    have HS22 : Hid (Blk w20 nS [.int .i64 zv, .int .i64 xdh, .int .i64 xdr, .int .i64 xds, .string xdi, .int .i64 xmh, .int .i64 xmr, .int .i64 xms, .string xmi, .bool zp, .slice qa zo.length qc] 29) := HS21.out.below bb HS21.out.lt
    have HV22 : Hid (Blk w20 nV [.int .i64 yh, .int .i64 yr, .int .i64 ys, .string yi, .int .i64 yv] 31) := HV21.out.below bb HV21.out.lt
    have HX22 : Hid (Blk w20 nX [.int .i64 xv, .int .i64 xdh, .int .i64 xdr, .int .i64 xds, .string xdi, .int .i64 xmh, .int .i64 xmr, .int .i64 xms, .string xmi, .bool xp, .slice ia xo.length ic] 29) := HX21.out.below bb HX21.out.lt
    have HJ22 : Hid (Blk w20 nJ [.int .i64 xv, .int .i64 xdh, .int .i64 xdr, .int .i64 xds, .string xdi, .int .i64 xmh, .int .i64 xmr, .int .i64 xms, .string xmi, .bool xp, .slice ja xo.length jc] 29) := HJ21.out.below bb HJ21.out.lt
    have HG22 : Hid (Blk w20 nG [.int .i64 gh, .int .i64 gr, .int .i64 gs, .string gi] 26) := HG21.out.below bb HG21.out.lt
    have HT22 : Hid (Blk w20 nT [.int .i64 th, .int .i64 tr, .int .i64 ts, .string ti, .int .i64 tv] 31) := HT21.out.below bb HT21.out.lt
    have HU22 : Hid (Blk w20 nU [.int .i64 uv, .int .i64 udh, .int .i64 udr, .int .i64 uds, .string udi, .int .i64 umh, .int .i64 umr, .int .i64 ums, .string umi, .bool up, .slice ua uo.length uc] 29) := HU21.out.below bb HU21.out.lt
    have HQ22 : Hid (Rdd w20 w.heap.size nS zo qa) := HQ21.out.below bb
    have HA22 : Hid (Rdd w20 w.heap.size nX xo ia) := HA21.out.below bb
    have HE22 : Hid (Rdd w20 w.heap.size nU uo ua) := HE21.out.below bb
    have HB22 : Hid (Below w.heap.size w w20) := HB21.out.trans (bb.mono HB21.out.size)
    clear HS21 HV21 HX21 HJ21 HG21 HT21 HU21 HB21 HQ21 HA21 HE21
    clear bb
    clear kZ
    have cS_0_22 := HS22.out.cell 0 rfl
    have cS_1_22 := HS22.out.cell 1 rfl
    have cS_2_22 := HS22.out.cell 2 rfl
    have cS_3_22 := HS22.out.cell 3 rfl
    have cS_4_22 := HS22.out.cell 4 rfl
    have cS_5_22 := HS22.out.cell 5 rfl
    have cS_6_22 := HS22.out.cell 6 rfl
    have cS_7_22 := HS22.out.cell 7 rfl
    have cS_8_22 := HS22.out.cell 8 rfl
    have cS_9_22 := HS22.out.cell 9 rfl
    have cS_10_22 := HS22.out.cell 10 rfl
    have cX_0_22 := HX22.out.cell 0 rfl
    have cX_1_22 := HX22.out.cell 1 rfl
    have cX_2_22 := HX22.out.cell 2 rfl
    have cX_3_22 := HX22.out.cell 3 rfl
    have cX_4_22 := HX22.out.cell 4 rfl
    have cX_5_22 := HX22.out.cell 5 rfl
    have cX_6_22 := HX22.out.cell 6 rfl
    have cX_7_22 := HX22.out.cell 7 rfl
    have cX_8_22 := HX22.out.cell 8 rfl
    have cX_9_22 := HX22.out.cell 9 rfl
    have cX_10_22 := HX22.out.cell 10 rfl
    have cU_0_22 := HU22.out.cell 0 rfl
    have cU_1_22 := HU22.out.cell 1 rfl
    have cU_2_22 := HU22.out.cell 2 rfl
    have cU_3_22 := HU22.out.cell 3 rfl
    have cU_4_22 := HU22.out.cell 4 rfl
    have cU_5_22 := HU22.out.cell 5 rfl
    have cU_6_22 := HU22.out.cell 6 rfl
    have cU_7_22 := HU22.out.cell 7 rfl
    have cU_8_22 := HU22.out.cell 8 rfl
    have cU_9_22 := HU22.out.cell 9 rfl
    have cU_10_22 := HU22.out.cell 10 rfl
    cases zp
    · go_wp2
      go_ret
      exact ⟨rfl, HB22.out⟩
    · go_wp2
      go_ret
      exact ⟨rfl, HB22.out⟩
end Go.Proofs.Ytmjlpdmdpagggaa
