/- The walk of FnNumbers. -/
import Derived.Test.YtglngepjphgpoaaDoorFnum
import Derived.Lib.ItoaLen
namespace Go.Proofs.YtglngepjphgpoaaDoor
open Go.RowKit
open Num
set_option linter.unusedVariables false
set_option maxHeartbeats 400000 in
theorem big_any (a : Option Addr) (len cap : Nat) (w : World) (hm : len ≤ 9223372036854775807) :
    Calls Tryd.prog 6 #[.slice a len cap] w fun e w' => e = .returned (.bool (decide ((1048576 : Int) < (len : Int)))) ∧ w' = w := by
  go_enter Tryd.func6, Tryd.ntmps6
  go_wp2
  go_ret
  exact ⟨rfl, rfl⟩
def AllLaid (w : World) : Prop := Tab w ∧ Err "strconv.ErrSyntax" w ∧ Err "strconv.ErrRange" w
theorem all_below {w w' : World} (h : AllLaid w) (hb : Below w.heap.size w w') : AllLaid w' := ⟨tab_below h.1 hb, es_below h.2.1 hb, er_below h.2.2 hb⟩
theorem code_below {w w' : World} {a : Option Addr} {L : List UInt8} (h : CodeAt w w.heap.size a L) (hb : Below w.heap.size w w') : CodeAt w' w'.heap.size a L := by
  intro j hj
  obtain ⟨b, off, ha, hne, hc⟩ := h j hj
  have hlt : b < w.heap.size := World.block_lt_of_cell? w _ hc
  exact ⟨b, off, ha, by have := hb.size; omega, by rw [hb.cell (p := ⟨b, off + j, none⟩) hlt]; exact hc⟩
theorem size_extract_le (t : ByteArray) (i j : Nat) : (t.extract i j).size ≤ t.size := by
  rw [ByteArray.size_extract]; omega
theorem size_spoilP (L : List UInt8) (s : St) (t : ByteArray) : (spoilP L s t).1.size ≤ 2 * t.size + 1 := by
  have h1 := fun i j => size_extract_le t i j
  unfold spoilP
  split
  · simp only [ByteArray.size_append]
    have := h1 0 (belowV L s t.size).toNat; have := h1 ((belowV L s t.size).toNat + 1) t.size; omega
  · split
    · simp only [ByteArray.size_append]
      have := h1 0 (belowV L s t.size).toNat; have := h1 (belowV L s t.size).toNat t.size
      have e : ∀ c : UInt8, (⟨#[c]⟩ : ByteArray).size = 1 := fun _ => rfl
      rw [e]; omega
    · split
      · have := h1 0 (belowV L s t.size).toNat; simp only []; omega
      · simp only [ByteArray.size_append]
        have := h1 0 (belowV L s t.size).toNat; have := h1 ((belowV L s t.size).toNat + 1) t.size
        have e : ∀ c : UInt8, (⟨#[c]⟩ : ByteArray).size = 1 := fun _ => rfl
        rw [e]; omega
theorem size_drawReadVar (L : List UInt8) : (drawReadVar L).size ≤ 1000 := by
  have hp := size_preV L
  unfold drawReadVar
  split
  · split
    · have := length_textP L (belowN L (preN L) 4) 3 (by omega)
      rw [size_mk]; omega
    · have := size_spoilP L (belowN L (preN L) 4) (preV L); omega
  · omega
theorem empty_mk (b : ByteArray) (h : b = ⟨#[]⟩) : b.toList.isEmpty = true := by rw [h, Go.ByteArray.toList_eq]; rfl
theorem nonempty_mk (l : List UInt8) (h : 0 < l.length) : (⟨l.toArray⟩ : ByteArray).toList.isEmpty = false := by
  rw [Go.ByteArray.toList_mk]
  cases l with
  | nil => simp at h
  | cons c l => rfl
theorem mk_data (t : ByteArray) : (⟨t.data.toList.toArray⟩ : ByteArray) = t := by apply ByteArray.ext; simp
theorem var_facts (n : Int) (tl : ByteArray) (h0 : 0 ≤ n) (h1 : n ≤ 562949953421311) : (var n).toList.isEmpty = false ∧ rv (var n ++ tl).data.toList = (n, (var n).size) := by
  have hl : 0 < (vl 6 n).length := by obtain ⟨c, l, e⟩ := vl_cons 6 n; rw [e]; simp
  rw [var_yes n h0 h1]
  refine ⟨nonempty_mk _ hl, ?_⟩
  rw [size_mk]
  have e : ((⟨(vl 6 n).toArray⟩ : ByteArray) ++ tl).data.toList = vl 6 n ++ tl.data.toList := by
    rw [ByteArray.data_append]; simp
  rw [e, rv_var n _ h0 h1]
theorem fx_facts (n : Int) (tl : ByteArray) (h0 : 0 ≤ n) (h1 : n < 72057594037927936) : (fx n 7).toList.isEmpty = false ∧ (fx n 7).size = 7 ∧ rfOk (fx n 7 ++ tl) 7 = true ∧ rfVal (fx n 7 ++ tl) 7 = n := by
  have h7 : n / 256 ^ (7 : Int).toNat ≤ 0 := by
    have : (256 : Int) ^ (7 : Int).toNat = 72057594037927936 := by decide
    rw [this]; omega
  have e : fx n 7 = ⟨(lo n 7).toArray⟩ := fx_yes n 7 (by omega) (by omega) h0 h7
  have hs : (fx n 7).size = 7 := by rw [e, size_mk, length_lo]
  have hok : rfOk (fx n 7 ++ tl) 7 = true := rf_yes _ 7 (by omega) (by omega) (by rw [ByteArray.size_append, hs]; omega)
  refine ⟨by rw [e]; exact nonempty_mk _ (by rw [length_lo]; omega), hs, hok, ?_⟩
  unfold rfVal
  rw [hok]
  have e2 : (fx n 7 ++ tl).data.toList.take (7 : Int).toNat = lo n 7 := by
    rw [e, ByteArray.data_append]
    have : ((lo n 7).toArray ++ tl.data).toList = lo n 7 ++ tl.data.toList := by simp
    show List.take 7 ((lo n 7).toArray ++ tl.data).toList = _
    rw [this, List.take_append_of_le_length (by rw [length_lo]; omega), List.take_of_length_le (by rw [length_lo]; omega)]
  have hp : (256 : Int) ^ 7 = 72057594037927936 := rfl
  have hbe := be_lo 7 n h0 (by rw [hp]; exact h1)
  rw [cond_true, e2]
  exact hbe
theorem fx_none (n : Int) (h : n < 0 ∨ 72057594037927936 ≤ n) : (fx n 7).toList.isEmpty = true ∧ fx n 7 = ⟨#[]⟩ := by
  have e : fx n 7 = ⟨#[]⟩ := fx_no n 7 (by
    have : (256 : Int) ^ (7 : Int).toNat = 72057594037927936 := by decide
    rw [this]; omega)
  exact ⟨empty_mk _ e, e⟩
set_option maxHeartbeats 3200000 in
set_option maxRecDepth 100000 in
theorem fn_A (a : Option Addr) (L : List UInt8) (cap : Nat) (w : World) (hl : CodeAt w w.heap.size a L) (hT : AllLaid w) (hlen : L.length ≤ 1048576) (n : Int) (hn : drawVar L = n) (h1 : -9223372036854775808 ≤ n) (h2 : n < -999999999) :
    Calls Tryd.prog 3 #[.slice a L.length cap] w fun e w' => e = .returned (.bool true) ∧ Below w.heap.size w w' := by
  have HN : Hid (_ = _) := hn
  clear hn
  have HL : Hid (CodeAt w w.heap.size a L) := hl
  have HT : Hid (AllLaid w) := hT
  clear hl hT
  obtain ⟨tl, htl⟩ : ∃ tl, drawHex L = tl := ⟨_, rfl⟩
  have hts : tl.size ≤ 40 := by rw [← htl]; exact size_drawHex L
  have HTL : Hid (_ = _) := htl
  clear htl
  have hbig : decide ((1048576 : Int) < (L.length : Int)) = false := by simp; omega
  obtain ⟨R, hR⟩ : ∃ R, drawReadVar L = R := ⟨_, rfl⟩
  have hRs : R.size ≤ 1000 := by rw [← hR]; exact size_drawReadVar L
  have HR : Hid (_ = _) := hR
  clear hR
  obtain ⟨zz, hzz⟩ : ∃ zz, rv R.data.toList = zz := ⟨_, rfl⟩
  have HZ : Hid (_ = _) := hzz
  have HSND : Hid (zz.2 ≠ 0 → zz.2 ≤ R.size ∧ ((var zz.1).toList == (R.extract 0 zz.2).toList) = true) := fun h => by
    rw [← hzz] at h ⊢
    have := rv_sound _ h
    have hl := len_toList' R
    refine ⟨by omega, ?_⟩
    rw [this.2, Go.ByteArray.toList_mk, Go.ByteArray.toList_eq]
    simp
  clear hzz
  have HU : Hid (unS (unh (⟨(hex tl.data.toList).toArray⟩ : ByteArray).data.toList) = tl ∧ (unh (⟨(hex tl.data.toList).toArray⟩ : ByteArray).data.toList).isSome = true) := by
    have e : unh (⟨(hex tl.data.toList).toArray⟩ : ByteArray).data.toList = some tl.data.toList := unh_hex _
    rw [e]; exact ⟨mk_data tl, rfl⟩
  have HHS : Hid ((⟨(hex tl.data.toList).toArray⟩ : ByteArray).size ≤ 1048576) := show _ ≤ _ by
    rw [size_mk, length_hex, len_toList']; omega
  have HIS : Hid ((⟨(Lib.itoa n).toArray⟩ : ByteArray).size ≤ 1048576) := show _ ≤ _ by
    have := Lib.itoa_length_le n (by omega) (by omega)
    rw [size_mk]; omega
  have hvs := size_var n
  have hve := empty_mk _ (var_no n (by omega))
  obtain ⟨pp, hpp⟩ : ∃ pp, rv (var n ++ tl).data.toList = pp := ⟨_, rfl⟩
  have HP : Hid (_ = _) := hpp
  clear hpp
  have hff := fx_none n (by omega)
  have hfe := hff.1
  have hfs : (fx n 7).size ≤ 7 := by rw [hff.2]; decide
  obtain ⟨qq, hqq1⟩ : ∃ qq, rfVal (fx n 7 ++ tl) 7 = qq := ⟨_, rfl⟩
  obtain ⟨qb, hqq2⟩ : ∃ qb, rfOk (fx n 7 ++ tl) 7 = qb := ⟨_, rfl⟩
  have HQ : Hid (_ ∧ _) := ⟨hqq1, hqq2⟩
  clear hff hqq1 hqq2
  have HV : Hid (rd (⟨(Lib.itoa n).toArray⟩ : ByteArray).data.toList = (0, false)) := (rd_itoa n (by omega) (by omega)).trans (by rw [if_neg (by omega)])
  go_enter Tryd.func3, Tryd.ntmps3
  go_wp2_with fail
  refine (big_any a L.length cap _ (by omega)).mono ?_
  rintro e w0 ⟨rfl, rfl⟩
  rw [hbig]
  go_wp2_with fail
  refine (drawVar_any a L cap _ HL.out hlen).mono ?_
  rintro e w1 ⟨rfl, hb1⟩
  rw [HN.out]
  have HL1 : Hid (CodeAt w1 w1.heap.size a L) := code_below HL.out hb1
  have HT1 : Hid (AllLaid w1) := all_below HT.out hb1
  go_wp2_with fail
  refine (drawHex_any a L cap _ HL1.out hlen).mono ?_
  rintro e w2 ⟨rfl, hb2⟩
  rw [HTL.out]
  have HL2 : Hid (CodeAt w2 w2.heap.size a L) := code_below HL1.out hb2
  have HT2 : Hid (AllLaid w2) := all_below HT1.out hb2
  replace hb2 := hb1.trans (hb2.mono hb1.size)
  clear hb1 HL1 HT1
  go_wp2_with fail
  refine (impl_var n _).mono ?_
  rintro e w3 ⟨rfl, hb3⟩
  have HL3 : Hid (CodeAt w3 w3.heap.size a L) := code_below HL2.out hb3
  have HT3 : Hid (AllLaid w3) := all_below HT2.out hb3
  replace hb3 := hb2.trans (hb3.mono hb2.size)
  clear hb2 HL2 HT2
  go_wp2_with fail
  refine (impl_rv _ _ (by unfold maxLen; rw [ByteArray.size_append]; omega)).mono ?_
  rintro e w4 ⟨rfl, rfl⟩
  rw [HP.out]
  go_wp2_with fail
  refine (impl_fx n 7 _ (by omega)).mono ?_
  rintro e w5 ⟨rfl, hb5⟩
  have HL5 : Hid (CodeAt w5 w5.heap.size a L) := code_below HL3.out hb5
  have HT5 : Hid (AllLaid w5) := all_below HT3.out hb5
  replace hb5 := hb3.trans (hb5.mono hb3.size)
  clear hb3 HL3 HT3
  go_wp2_with fail
  refine (impl_rf _ 7 _ (by unfold maxLen; rw [ByteArray.size_append]; omega)).mono ?_
  rintro e w6 ⟨rfl, rfl⟩
  rw [HQ.out.1, HQ.out.2]
  go_wp2_with fail
  refine (impl_dec n _ (by omega) (by omega) HT5.out.1).mono ?_
  rintro e w7 ⟨rfl, hb7⟩
  have HL7 : Hid (CodeAt w7 w7.heap.size a L) := code_below HL5.out hb7
  have HT7 : Hid (AllLaid w7) := all_below HT5.out hb7
  replace hb7 := hb5.trans (hb7.mono hb5.size)
  clear hb5 HL5 HT5
  go_wp2_with fail
  refine (impl_rdec ⟨(Lib.itoa n).toArray⟩ _ HIS.out HT7.out.1 HT7.out.2.1 HT7.out.2.2).mono ?_
  rintro e w8 ⟨rfl, hb8⟩
  rw [HV.out]
  have HL8 : Hid (CodeAt w8 w8.heap.size a L) := code_below HL7.out hb8
  replace hb8 := hb7.trans (hb8.mono hb7.size)
  clear hb7 HL7 HT7
  go_wp2_with fail
  refine (impl_hex tl _ (by omega)).mono ?_
  rintro e w9 ⟨rfl, hb9⟩
  have HL9 : Hid (CodeAt w9 w9.heap.size a L) := code_below HL8.out hb9
  replace hb9 := hb8.trans (hb9.mono hb8.size)
  clear hb8 HL8
  go_wp2_with fail
  refine (impl_unhex ⟨(hex tl.data.toList).toArray⟩ _ HHS.out).mono ?_
  rintro e w10 ⟨rfl, hb10⟩
  rw [HU.out.1, HU.out.2]
  have HL10 : Hid (CodeAt w10 w10.heap.size a L) := code_below HL9.out hb10
  replace hb10 := hb9.trans (hb10.mono hb9.size)
  clear hb9 HL9
  go_wp2_with fail
  refine (drawReadVar_any a L cap _ HL10.out hlen).mono ?_
  rintro e w11 ⟨rfl, hb11⟩
  rw [HR.out]
  have HL11 : Hid (CodeAt w11 w11.heap.size a L) := code_below HL10.out hb11
  replace hb11 := hb10.trans (hb11.mono hb10.size)
  clear hb10 HL10
  go_wp2_with fail
  refine (impl_rv R _ (by unfold maxLen; omega)).mono ?_
  rintro e w12 ⟨rfl, rfl⟩
  rw [HZ.out]
  by_cases hj : zz.2 = 0
  · have hj0 : ((zz.2 : Int) == 0) = true := by rw [hj]; rfl
    clear hj
    go_wp2
    go_ret
    exact ⟨rfl, hb11⟩
  · have hs := HSND.out hj
    have hj0 : ((zz.2 : Int) == 0) = false := by rw [beq_eq_false_iff_ne]; omega
    have hjr : (zz.2 : Int) ≤ (R.size : Int) := by omega
    have hjr0 : (0 : Int) ≤ (zz.2 : Int) := by omega
    have hqq := hs.2
    clear hs hj
    go_wp2_with fail
    refine (impl_var zz.1 _).mono ?_
    rintro e w13 ⟨rfl, hb13⟩
    have HL13 : Hid (CodeAt w13 w13.heap.size a L) := code_below HL11.out hb13
    replace hb13 := hb11.trans (hb13.mono hb11.size)
    clear hb11 HL11
    go_wp2_with fail
    refine (drawReadVar_any a L cap _ HL13.out hlen).mono ?_
    rintro e w14 ⟨rfl, hb14⟩
    rw [HR.out]
    replace hb14 := hb13.trans (hb14.mono hb13.size)
    clear hb13 HL13
    go_wp2
    go_ret
    exact ⟨rfl, hb14⟩
set_option maxHeartbeats 3200000 in
set_option maxRecDepth 100000 in
theorem fn_B (a : Option Addr) (L : List UInt8) (cap : Nat) (w : World) (hl : CodeAt w w.heap.size a L) (hT : AllLaid w) (hlen : L.length ≤ 1048576) (n : Int) (hn : drawVar L = n) (h1 : -999999999 ≤ n) (h2 : n < 0) :
    Calls Tryd.prog 3 #[.slice a L.length cap] w fun e w' => e = .returned (.bool true) ∧ Below w.heap.size w w' := by
  have HN : Hid (_ = _) := hn
  clear hn
  have HL : Hid (CodeAt w w.heap.size a L) := hl
  have HT : Hid (AllLaid w) := hT
  clear hl hT
  obtain ⟨tl, htl⟩ : ∃ tl, drawHex L = tl := ⟨_, rfl⟩
  have hts : tl.size ≤ 40 := by rw [← htl]; exact size_drawHex L
  have HTL : Hid (_ = _) := htl
  clear htl
  have hbig : decide ((1048576 : Int) < (L.length : Int)) = false := by simp; omega
  obtain ⟨R, hR⟩ : ∃ R, drawReadVar L = R := ⟨_, rfl⟩
  have hRs : R.size ≤ 1000 := by rw [← hR]; exact size_drawReadVar L
  have HR : Hid (_ = _) := hR
  clear hR
  obtain ⟨zz, hzz⟩ : ∃ zz, rv R.data.toList = zz := ⟨_, rfl⟩
  have HZ : Hid (_ = _) := hzz
  have HSND : Hid (zz.2 ≠ 0 → zz.2 ≤ R.size ∧ ((var zz.1).toList == (R.extract 0 zz.2).toList) = true) := fun h => by
    rw [← hzz] at h ⊢
    have := rv_sound _ h
    have hl := len_toList' R
    refine ⟨by omega, ?_⟩
    rw [this.2, Go.ByteArray.toList_mk, Go.ByteArray.toList_eq]
    simp
  clear hzz
  have HU : Hid (unS (unh (⟨(hex tl.data.toList).toArray⟩ : ByteArray).data.toList) = tl ∧ (unh (⟨(hex tl.data.toList).toArray⟩ : ByteArray).data.toList).isSome = true) := by
    have e : unh (⟨(hex tl.data.toList).toArray⟩ : ByteArray).data.toList = some tl.data.toList := unh_hex _
    rw [e]; exact ⟨mk_data tl, rfl⟩
  have HHS : Hid ((⟨(hex tl.data.toList).toArray⟩ : ByteArray).size ≤ 1048576) := show _ ≤ _ by
    rw [size_mk, length_hex, len_toList']; omega
  have HIS : Hid ((⟨(Lib.itoa n).toArray⟩ : ByteArray).size ≤ 1048576) := show _ ≤ _ by
    have := Lib.itoa_length_le n (by omega) (by omega)
    rw [size_mk]; omega
  have hvs := size_var n
  have hve := empty_mk _ (var_no n (by omega))
  obtain ⟨pp, hpp⟩ : ∃ pp, rv (var n ++ tl).data.toList = pp := ⟨_, rfl⟩
  have HP : Hid (_ = _) := hpp
  clear hpp
  have hff := fx_none n (by omega)
  have hfe := hff.1
  have hfs : (fx n 7).size ≤ 7 := by rw [hff.2]; decide
  obtain ⟨qq, hqq1⟩ : ∃ qq, rfVal (fx n 7 ++ tl) 7 = qq := ⟨_, rfl⟩
  obtain ⟨qb, hqq2⟩ : ∃ qb, rfOk (fx n 7 ++ tl) 7 = qb := ⟨_, rfl⟩
  have HQ : Hid (_ ∧ _) := ⟨hqq1, hqq2⟩
  clear hff hqq1 hqq2
  have HV : Hid (rd (⟨(Lib.itoa n).toArray⟩ : ByteArray).data.toList = (n, true)) := (rd_itoa n (by omega) (by omega)).trans (by rw [if_pos (by omega)])
  have hnd : (n != n) = false := by simp
  go_enter Tryd.func3, Tryd.ntmps3
  go_wp2_with fail
  refine (big_any a L.length cap _ (by omega)).mono ?_
  rintro e w0 ⟨rfl, rfl⟩
  rw [hbig]
  go_wp2_with fail
  refine (drawVar_any a L cap _ HL.out hlen).mono ?_
  rintro e w1 ⟨rfl, hb1⟩
  rw [HN.out]
  have HL1 : Hid (CodeAt w1 w1.heap.size a L) := code_below HL.out hb1
  have HT1 : Hid (AllLaid w1) := all_below HT.out hb1
  go_wp2_with fail
  refine (drawHex_any a L cap _ HL1.out hlen).mono ?_
  rintro e w2 ⟨rfl, hb2⟩
  rw [HTL.out]
  have HL2 : Hid (CodeAt w2 w2.heap.size a L) := code_below HL1.out hb2
  have HT2 : Hid (AllLaid w2) := all_below HT1.out hb2
  replace hb2 := hb1.trans (hb2.mono hb1.size)
  clear hb1 HL1 HT1
  go_wp2_with fail
  refine (impl_var n _).mono ?_
  rintro e w3 ⟨rfl, hb3⟩
  have HL3 : Hid (CodeAt w3 w3.heap.size a L) := code_below HL2.out hb3
  have HT3 : Hid (AllLaid w3) := all_below HT2.out hb3
  replace hb3 := hb2.trans (hb3.mono hb2.size)
  clear hb2 HL2 HT2
  go_wp2_with fail
  refine (impl_rv _ _ (by unfold maxLen; rw [ByteArray.size_append]; omega)).mono ?_
  rintro e w4 ⟨rfl, rfl⟩
  rw [HP.out]
  go_wp2_with fail
  refine (impl_fx n 7 _ (by omega)).mono ?_
  rintro e w5 ⟨rfl, hb5⟩
  have HL5 : Hid (CodeAt w5 w5.heap.size a L) := code_below HL3.out hb5
  have HT5 : Hid (AllLaid w5) := all_below HT3.out hb5
  replace hb5 := hb3.trans (hb5.mono hb3.size)
  clear hb3 HL3 HT3
  go_wp2_with fail
  refine (impl_rf _ 7 _ (by unfold maxLen; rw [ByteArray.size_append]; omega)).mono ?_
  rintro e w6 ⟨rfl, rfl⟩
  rw [HQ.out.1, HQ.out.2]
  go_wp2_with fail
  refine (impl_dec n _ (by omega) (by omega) HT5.out.1).mono ?_
  rintro e w7 ⟨rfl, hb7⟩
  have HL7 : Hid (CodeAt w7 w7.heap.size a L) := code_below HL5.out hb7
  have HT7 : Hid (AllLaid w7) := all_below HT5.out hb7
  replace hb7 := hb5.trans (hb7.mono hb5.size)
  clear hb5 HL5 HT5
  go_wp2_with fail
  refine (impl_rdec ⟨(Lib.itoa n).toArray⟩ _ HIS.out HT7.out.1 HT7.out.2.1 HT7.out.2.2).mono ?_
  rintro e w8 ⟨rfl, hb8⟩
  rw [HV.out]
  have HL8 : Hid (CodeAt w8 w8.heap.size a L) := code_below HL7.out hb8
  replace hb8 := hb7.trans (hb8.mono hb7.size)
  clear hb7 HL7 HT7
  go_wp2_with fail
  refine (impl_hex tl _ (by omega)).mono ?_
  rintro e w9 ⟨rfl, hb9⟩
  have HL9 : Hid (CodeAt w9 w9.heap.size a L) := code_below HL8.out hb9
  replace hb9 := hb8.trans (hb9.mono hb8.size)
  clear hb8 HL8
  go_wp2_with fail
  refine (impl_unhex ⟨(hex tl.data.toList).toArray⟩ _ HHS.out).mono ?_
  rintro e w10 ⟨rfl, hb10⟩
  rw [HU.out.1, HU.out.2]
  have HL10 : Hid (CodeAt w10 w10.heap.size a L) := code_below HL9.out hb10
  replace hb10 := hb9.trans (hb10.mono hb9.size)
  clear hb9 HL9
  go_wp2_with fail
  refine (drawReadVar_any a L cap _ HL10.out hlen).mono ?_
  rintro e w11 ⟨rfl, hb11⟩
  rw [HR.out]
  have HL11 : Hid (CodeAt w11 w11.heap.size a L) := code_below HL10.out hb11
  replace hb11 := hb10.trans (hb11.mono hb10.size)
  clear hb10 HL10
  go_wp2_with fail
  refine (impl_rv R _ (by unfold maxLen; omega)).mono ?_
  rintro e w12 ⟨rfl, rfl⟩
  rw [HZ.out]
  by_cases hj : zz.2 = 0
  · have hj0 : ((zz.2 : Int) == 0) = true := by rw [hj]; rfl
    clear hj
    go_wp2
    go_ret
    exact ⟨rfl, hb11⟩
  · have hs := HSND.out hj
    have hj0 : ((zz.2 : Int) == 0) = false := by rw [beq_eq_false_iff_ne]; omega
    have hjr : (zz.2 : Int) ≤ (R.size : Int) := by omega
    have hjr0 : (0 : Int) ≤ (zz.2 : Int) := by omega
    have hqq := hs.2
    clear hs hj
    go_wp2_with fail
    refine (impl_var zz.1 _).mono ?_
    rintro e w13 ⟨rfl, hb13⟩
    have HL13 : Hid (CodeAt w13 w13.heap.size a L) := code_below HL11.out hb13
    replace hb13 := hb11.trans (hb13.mono hb11.size)
    clear hb11 HL11
    go_wp2_with fail
    refine (drawReadVar_any a L cap _ HL13.out hlen).mono ?_
    rintro e w14 ⟨rfl, hb14⟩
    rw [HR.out]
    replace hb14 := hb13.trans (hb14.mono hb13.size)
    clear hb13 HL13
    go_wp2
    go_ret
    exact ⟨rfl, hb14⟩
set_option maxHeartbeats 3200000 in
set_option maxRecDepth 100000 in
theorem fn_C (a : Option Addr) (L : List UInt8) (cap : Nat) (w : World) (hl : CodeAt w w.heap.size a L) (hT : AllLaid w) (hlen : L.length ≤ 1048576) (n : Int) (hn : drawVar L = n) (h1 : 0 ≤ n) (h2 : n ≤ 999999999) :
    Calls Tryd.prog 3 #[.slice a L.length cap] w fun e w' => e = .returned (.bool true) ∧ Below w.heap.size w w' := by
  have HN : Hid (_ = _) := hn
  clear hn
  have HL : Hid (CodeAt w w.heap.size a L) := hl
  have HT : Hid (AllLaid w) := hT
  clear hl hT
  obtain ⟨tl, htl⟩ : ∃ tl, drawHex L = tl := ⟨_, rfl⟩
  have hts : tl.size ≤ 40 := by rw [← htl]; exact size_drawHex L
  have HTL : Hid (_ = _) := htl
  clear htl
  have hbig : decide ((1048576 : Int) < (L.length : Int)) = false := by simp; omega
  obtain ⟨R, hR⟩ : ∃ R, drawReadVar L = R := ⟨_, rfl⟩
  have hRs : R.size ≤ 1000 := by rw [← hR]; exact size_drawReadVar L
  have HR : Hid (_ = _) := hR
  clear hR
  obtain ⟨zz, hzz⟩ : ∃ zz, rv R.data.toList = zz := ⟨_, rfl⟩
  have HZ : Hid (_ = _) := hzz
  have HSND : Hid (zz.2 ≠ 0 → zz.2 ≤ R.size ∧ ((var zz.1).toList == (R.extract 0 zz.2).toList) = true) := fun h => by
    rw [← hzz] at h ⊢
    have := rv_sound _ h
    have hl := len_toList' R
    refine ⟨by omega, ?_⟩
    rw [this.2, Go.ByteArray.toList_mk, Go.ByteArray.toList_eq]
    simp
  clear hzz
  have HU : Hid (unS (unh (⟨(hex tl.data.toList).toArray⟩ : ByteArray).data.toList) = tl ∧ (unh (⟨(hex tl.data.toList).toArray⟩ : ByteArray).data.toList).isSome = true) := by
    have e : unh (⟨(hex tl.data.toList).toArray⟩ : ByteArray).data.toList = some tl.data.toList := unh_hex _
    rw [e]; exact ⟨mk_data tl, rfl⟩
  have HHS : Hid ((⟨(hex tl.data.toList).toArray⟩ : ByteArray).size ≤ 1048576) := show _ ≤ _ by
    rw [size_mk, length_hex, len_toList']; omega
  have HIS : Hid ((⟨(Lib.itoa n).toArray⟩ : ByteArray).size ≤ 1048576) := show _ ≤ _ by
    have := Lib.itoa_length_le n (by omega) (by omega)
    rw [size_mk]; omega
  have hvs := size_var n
  have hve := (var_facts n tl (by omega) (by omega)).1
  have HP : Hid (_ = _) := (var_facts n tl (by omega) (by omega)).2
  have hk0 : (((var n).size : Int) != ((var n).size : Int)) = false := by simp
  have hn0 : (n != n) = false := by simp
  have hff := fx_facts n tl (by omega) (by omega)
  have hfe := hff.1
  have hf7 : (((fx n 7).size : Int) != 7) = false := by rw [hff.2.1]; rfl
  have hfs : (fx n 7).size ≤ 7 := by omega
  have HQ : Hid (_ ∧ _) := ⟨hff.2.2.2, hff.2.2.1⟩
  have hn0' : (n != n) = false := by simp
  clear hff
  have HV : Hid (rd (⟨(Lib.itoa n).toArray⟩ : ByteArray).data.toList = (n, true)) := (rd_itoa n (by omega) (by omega)).trans (by rw [if_pos (by omega)])
  have hnd : (n != n) = false := by simp
  go_enter Tryd.func3, Tryd.ntmps3
  go_wp2_with fail
  refine (big_any a L.length cap _ (by omega)).mono ?_
  rintro e w0 ⟨rfl, rfl⟩
  rw [hbig]
  go_wp2_with fail
  refine (drawVar_any a L cap _ HL.out hlen).mono ?_
  rintro e w1 ⟨rfl, hb1⟩
  rw [HN.out]
  have HL1 : Hid (CodeAt w1 w1.heap.size a L) := code_below HL.out hb1
  have HT1 : Hid (AllLaid w1) := all_below HT.out hb1
  go_wp2_with fail
  refine (drawHex_any a L cap _ HL1.out hlen).mono ?_
  rintro e w2 ⟨rfl, hb2⟩
  rw [HTL.out]
  have HL2 : Hid (CodeAt w2 w2.heap.size a L) := code_below HL1.out hb2
  have HT2 : Hid (AllLaid w2) := all_below HT1.out hb2
  replace hb2 := hb1.trans (hb2.mono hb1.size)
  clear hb1 HL1 HT1
  go_wp2_with fail
  refine (impl_var n _).mono ?_
  rintro e w3 ⟨rfl, hb3⟩
  have HL3 : Hid (CodeAt w3 w3.heap.size a L) := code_below HL2.out hb3
  have HT3 : Hid (AllLaid w3) := all_below HT2.out hb3
  replace hb3 := hb2.trans (hb3.mono hb2.size)
  clear hb2 HL2 HT2
  go_wp2_with fail
  refine (impl_rv _ _ (by unfold maxLen; rw [ByteArray.size_append]; omega)).mono ?_
  rintro e w4 ⟨rfl, rfl⟩
  rw [HP.out]
  go_wp2_with fail
  refine (impl_fx n 7 _ (by omega)).mono ?_
  rintro e w5 ⟨rfl, hb5⟩
  have HL5 : Hid (CodeAt w5 w5.heap.size a L) := code_below HL3.out hb5
  have HT5 : Hid (AllLaid w5) := all_below HT3.out hb5
  replace hb5 := hb3.trans (hb5.mono hb3.size)
  clear hb3 HL3 HT3
  go_wp2_with fail
  refine (impl_rf _ 7 _ (by unfold maxLen; rw [ByteArray.size_append]; omega)).mono ?_
  rintro e w6 ⟨rfl, rfl⟩
  rw [HQ.out.1, HQ.out.2]
  go_wp2_with fail
  refine (impl_dec n _ (by omega) (by omega) HT5.out.1).mono ?_
  rintro e w7 ⟨rfl, hb7⟩
  have HL7 : Hid (CodeAt w7 w7.heap.size a L) := code_below HL5.out hb7
  have HT7 : Hid (AllLaid w7) := all_below HT5.out hb7
  replace hb7 := hb5.trans (hb7.mono hb5.size)
  clear hb5 HL5 HT5
  go_wp2_with fail
  refine (impl_rdec ⟨(Lib.itoa n).toArray⟩ _ HIS.out HT7.out.1 HT7.out.2.1 HT7.out.2.2).mono ?_
  rintro e w8 ⟨rfl, hb8⟩
  rw [HV.out]
  have HL8 : Hid (CodeAt w8 w8.heap.size a L) := code_below HL7.out hb8
  replace hb8 := hb7.trans (hb8.mono hb7.size)
  clear hb7 HL7 HT7
  go_wp2_with fail
  refine (impl_hex tl _ (by omega)).mono ?_
  rintro e w9 ⟨rfl, hb9⟩
  have HL9 : Hid (CodeAt w9 w9.heap.size a L) := code_below HL8.out hb9
  replace hb9 := hb8.trans (hb9.mono hb8.size)
  clear hb8 HL8
  go_wp2_with fail
  refine (impl_unhex ⟨(hex tl.data.toList).toArray⟩ _ HHS.out).mono ?_
  rintro e w10 ⟨rfl, hb10⟩
  rw [HU.out.1, HU.out.2]
  have HL10 : Hid (CodeAt w10 w10.heap.size a L) := code_below HL9.out hb10
  replace hb10 := hb9.trans (hb10.mono hb9.size)
  clear hb9 HL9
  go_wp2_with fail
  refine (drawReadVar_any a L cap _ HL10.out hlen).mono ?_
  rintro e w11 ⟨rfl, hb11⟩
  rw [HR.out]
  have HL11 : Hid (CodeAt w11 w11.heap.size a L) := code_below HL10.out hb11
  replace hb11 := hb10.trans (hb11.mono hb10.size)
  clear hb10 HL10
  go_wp2_with fail
  refine (impl_rv R _ (by unfold maxLen; omega)).mono ?_
  rintro e w12 ⟨rfl, rfl⟩
  rw [HZ.out]
  by_cases hj : zz.2 = 0
  · have hj0 : ((zz.2 : Int) == 0) = true := by rw [hj]; rfl
    clear hj
    go_wp2
    go_ret
    exact ⟨rfl, hb11⟩
  · have hs := HSND.out hj
    have hj0 : ((zz.2 : Int) == 0) = false := by rw [beq_eq_false_iff_ne]; omega
    have hjr : (zz.2 : Int) ≤ (R.size : Int) := by omega
    have hjr0 : (0 : Int) ≤ (zz.2 : Int) := by omega
    have hqq := hs.2
    clear hs hj
    go_wp2_with fail
    refine (impl_var zz.1 _).mono ?_
    rintro e w13 ⟨rfl, hb13⟩
    have HL13 : Hid (CodeAt w13 w13.heap.size a L) := code_below HL11.out hb13
    replace hb13 := hb11.trans (hb13.mono hb11.size)
    clear hb11 HL11
    go_wp2_with fail
    refine (drawReadVar_any a L cap _ HL13.out hlen).mono ?_
    rintro e w14 ⟨rfl, hb14⟩
    rw [HR.out]
    replace hb14 := hb13.trans (hb14.mono hb13.size)
    clear hb13 HL13
    go_wp2
    go_ret
    exact ⟨rfl, hb14⟩
set_option maxHeartbeats 3200000 in
set_option maxRecDepth 100000 in
theorem fn_D (a : Option Addr) (L : List UInt8) (cap : Nat) (w : World) (hl : CodeAt w w.heap.size a L) (hT : AllLaid w) (hlen : L.length ≤ 1048576) (n : Int) (hn : drawVar L = n) (h1 : 999999999 < n) (h2 : n ≤ 562949953421311) :
    Calls Tryd.prog 3 #[.slice a L.length cap] w fun e w' => e = .returned (.bool true) ∧ Below w.heap.size w w' := by
  have HN : Hid (_ = _) := hn
  clear hn
  have HL : Hid (CodeAt w w.heap.size a L) := hl
  have HT : Hid (AllLaid w) := hT
  clear hl hT
  obtain ⟨tl, htl⟩ : ∃ tl, drawHex L = tl := ⟨_, rfl⟩
  have hts : tl.size ≤ 40 := by rw [← htl]; exact size_drawHex L
  have HTL : Hid (_ = _) := htl
  clear htl
  have hbig : decide ((1048576 : Int) < (L.length : Int)) = false := by simp; omega
  obtain ⟨R, hR⟩ : ∃ R, drawReadVar L = R := ⟨_, rfl⟩
  have hRs : R.size ≤ 1000 := by rw [← hR]; exact size_drawReadVar L
  have HR : Hid (_ = _) := hR
  clear hR
  obtain ⟨zz, hzz⟩ : ∃ zz, rv R.data.toList = zz := ⟨_, rfl⟩
  have HZ : Hid (_ = _) := hzz
  have HSND : Hid (zz.2 ≠ 0 → zz.2 ≤ R.size ∧ ((var zz.1).toList == (R.extract 0 zz.2).toList) = true) := fun h => by
    rw [← hzz] at h ⊢
    have := rv_sound _ h
    have hl := len_toList' R
    refine ⟨by omega, ?_⟩
    rw [this.2, Go.ByteArray.toList_mk, Go.ByteArray.toList_eq]
    simp
  clear hzz
  have HU : Hid (unS (unh (⟨(hex tl.data.toList).toArray⟩ : ByteArray).data.toList) = tl ∧ (unh (⟨(hex tl.data.toList).toArray⟩ : ByteArray).data.toList).isSome = true) := by
    have e : unh (⟨(hex tl.data.toList).toArray⟩ : ByteArray).data.toList = some tl.data.toList := unh_hex _
    rw [e]; exact ⟨mk_data tl, rfl⟩
  have HHS : Hid ((⟨(hex tl.data.toList).toArray⟩ : ByteArray).size ≤ 1048576) := show _ ≤ _ by
    rw [size_mk, length_hex, len_toList']; omega
  have HIS : Hid ((⟨(Lib.itoa n).toArray⟩ : ByteArray).size ≤ 1048576) := show _ ≤ _ by
    have := Lib.itoa_length_le n (by omega) (by omega)
    rw [size_mk]; omega
  have hvs := size_var n
  have hve := (var_facts n tl (by omega) (by omega)).1
  have HP : Hid (_ = _) := (var_facts n tl (by omega) (by omega)).2
  have hk0 : (((var n).size : Int) != ((var n).size : Int)) = false := by simp
  have hn0 : (n != n) = false := by simp
  have hff := fx_facts n tl (by omega) (by omega)
  have hfe := hff.1
  have hf7 : (((fx n 7).size : Int) != 7) = false := by rw [hff.2.1]; rfl
  have hfs : (fx n 7).size ≤ 7 := by omega
  have HQ : Hid (_ ∧ _) := ⟨hff.2.2.2, hff.2.2.1⟩
  have hn0' : (n != n) = false := by simp
  clear hff
  have HV : Hid (rd (⟨(Lib.itoa n).toArray⟩ : ByteArray).data.toList = (0, false)) := (rd_itoa n (by omega) (by omega)).trans (by rw [if_neg (by omega)])
  go_enter Tryd.func3, Tryd.ntmps3
  go_wp2_with fail
  refine (big_any a L.length cap _ (by omega)).mono ?_
  rintro e w0 ⟨rfl, rfl⟩
  rw [hbig]
  go_wp2_with fail
  refine (drawVar_any a L cap _ HL.out hlen).mono ?_
  rintro e w1 ⟨rfl, hb1⟩
  rw [HN.out]
  have HL1 : Hid (CodeAt w1 w1.heap.size a L) := code_below HL.out hb1
  have HT1 : Hid (AllLaid w1) := all_below HT.out hb1
  go_wp2_with fail
  refine (drawHex_any a L cap _ HL1.out hlen).mono ?_
  rintro e w2 ⟨rfl, hb2⟩
  rw [HTL.out]
  have HL2 : Hid (CodeAt w2 w2.heap.size a L) := code_below HL1.out hb2
  have HT2 : Hid (AllLaid w2) := all_below HT1.out hb2
  replace hb2 := hb1.trans (hb2.mono hb1.size)
  clear hb1 HL1 HT1
  go_wp2_with fail
  refine (impl_var n _).mono ?_
  rintro e w3 ⟨rfl, hb3⟩
  have HL3 : Hid (CodeAt w3 w3.heap.size a L) := code_below HL2.out hb3
  have HT3 : Hid (AllLaid w3) := all_below HT2.out hb3
  replace hb3 := hb2.trans (hb3.mono hb2.size)
  clear hb2 HL2 HT2
  go_wp2_with fail
  refine (impl_rv _ _ (by unfold maxLen; rw [ByteArray.size_append]; omega)).mono ?_
  rintro e w4 ⟨rfl, rfl⟩
  rw [HP.out]
  go_wp2_with fail
  refine (impl_fx n 7 _ (by omega)).mono ?_
  rintro e w5 ⟨rfl, hb5⟩
  have HL5 : Hid (CodeAt w5 w5.heap.size a L) := code_below HL3.out hb5
  have HT5 : Hid (AllLaid w5) := all_below HT3.out hb5
  replace hb5 := hb3.trans (hb5.mono hb3.size)
  clear hb3 HL3 HT3
  go_wp2_with fail
  refine (impl_rf _ 7 _ (by unfold maxLen; rw [ByteArray.size_append]; omega)).mono ?_
  rintro e w6 ⟨rfl, rfl⟩
  rw [HQ.out.1, HQ.out.2]
  go_wp2_with fail
  refine (impl_dec n _ (by omega) (by omega) HT5.out.1).mono ?_
  rintro e w7 ⟨rfl, hb7⟩
  have HL7 : Hid (CodeAt w7 w7.heap.size a L) := code_below HL5.out hb7
  have HT7 : Hid (AllLaid w7) := all_below HT5.out hb7
  replace hb7 := hb5.trans (hb7.mono hb5.size)
  clear hb5 HL5 HT5
  go_wp2_with fail
  refine (impl_rdec ⟨(Lib.itoa n).toArray⟩ _ HIS.out HT7.out.1 HT7.out.2.1 HT7.out.2.2).mono ?_
  rintro e w8 ⟨rfl, hb8⟩
  rw [HV.out]
  have HL8 : Hid (CodeAt w8 w8.heap.size a L) := code_below HL7.out hb8
  replace hb8 := hb7.trans (hb8.mono hb7.size)
  clear hb7 HL7 HT7
  go_wp2_with fail
  refine (impl_hex tl _ (by omega)).mono ?_
  rintro e w9 ⟨rfl, hb9⟩
  have HL9 : Hid (CodeAt w9 w9.heap.size a L) := code_below HL8.out hb9
  replace hb9 := hb8.trans (hb9.mono hb8.size)
  clear hb8 HL8
  go_wp2_with fail
  refine (impl_unhex ⟨(hex tl.data.toList).toArray⟩ _ HHS.out).mono ?_
  rintro e w10 ⟨rfl, hb10⟩
  rw [HU.out.1, HU.out.2]
  have HL10 : Hid (CodeAt w10 w10.heap.size a L) := code_below HL9.out hb10
  replace hb10 := hb9.trans (hb10.mono hb9.size)
  clear hb9 HL9
  go_wp2_with fail
  refine (drawReadVar_any a L cap _ HL10.out hlen).mono ?_
  rintro e w11 ⟨rfl, hb11⟩
  rw [HR.out]
  have HL11 : Hid (CodeAt w11 w11.heap.size a L) := code_below HL10.out hb11
  replace hb11 := hb10.trans (hb11.mono hb10.size)
  clear hb10 HL10
  go_wp2_with fail
  refine (impl_rv R _ (by unfold maxLen; omega)).mono ?_
  rintro e w12 ⟨rfl, rfl⟩
  rw [HZ.out]
  by_cases hj : zz.2 = 0
  · have hj0 : ((zz.2 : Int) == 0) = true := by rw [hj]; rfl
    clear hj
    go_wp2
    go_ret
    exact ⟨rfl, hb11⟩
  · have hs := HSND.out hj
    have hj0 : ((zz.2 : Int) == 0) = false := by rw [beq_eq_false_iff_ne]; omega
    have hjr : (zz.2 : Int) ≤ (R.size : Int) := by omega
    have hjr0 : (0 : Int) ≤ (zz.2 : Int) := by omega
    have hqq := hs.2
    clear hs hj
    go_wp2_with fail
    refine (impl_var zz.1 _).mono ?_
    rintro e w13 ⟨rfl, hb13⟩
    have HL13 : Hid (CodeAt w13 w13.heap.size a L) := code_below HL11.out hb13
    replace hb13 := hb11.trans (hb13.mono hb11.size)
    clear hb11 HL11
    go_wp2_with fail
    refine (drawReadVar_any a L cap _ HL13.out hlen).mono ?_
    rintro e w14 ⟨rfl, hb14⟩
    rw [HR.out]
    replace hb14 := hb13.trans (hb14.mono hb13.size)
    clear hb13 HL13
    go_wp2
    go_ret
    exact ⟨rfl, hb14⟩
set_option maxHeartbeats 3200000 in
set_option maxRecDepth 100000 in
theorem fn_E (a : Option Addr) (L : List UInt8) (cap : Nat) (w : World) (hl : CodeAt w w.heap.size a L) (hT : AllLaid w) (hlen : L.length ≤ 1048576) (n : Int) (hn : drawVar L = n) (h1 : 562949953421311 < n) (h2 : n < 72057594037927936) :
    Calls Tryd.prog 3 #[.slice a L.length cap] w fun e w' => e = .returned (.bool true) ∧ Below w.heap.size w w' := by
  have HN : Hid (_ = _) := hn
  clear hn
  have HL : Hid (CodeAt w w.heap.size a L) := hl
  have HT : Hid (AllLaid w) := hT
  clear hl hT
  obtain ⟨tl, htl⟩ : ∃ tl, drawHex L = tl := ⟨_, rfl⟩
  have hts : tl.size ≤ 40 := by rw [← htl]; exact size_drawHex L
  have HTL : Hid (_ = _) := htl
  clear htl
  have hbig : decide ((1048576 : Int) < (L.length : Int)) = false := by simp; omega
  obtain ⟨R, hR⟩ : ∃ R, drawReadVar L = R := ⟨_, rfl⟩
  have hRs : R.size ≤ 1000 := by rw [← hR]; exact size_drawReadVar L
  have HR : Hid (_ = _) := hR
  clear hR
  obtain ⟨zz, hzz⟩ : ∃ zz, rv R.data.toList = zz := ⟨_, rfl⟩
  have HZ : Hid (_ = _) := hzz
  have HSND : Hid (zz.2 ≠ 0 → zz.2 ≤ R.size ∧ ((var zz.1).toList == (R.extract 0 zz.2).toList) = true) := fun h => by
    rw [← hzz] at h ⊢
    have := rv_sound _ h
    have hl := len_toList' R
    refine ⟨by omega, ?_⟩
    rw [this.2, Go.ByteArray.toList_mk, Go.ByteArray.toList_eq]
    simp
  clear hzz
  have HU : Hid (unS (unh (⟨(hex tl.data.toList).toArray⟩ : ByteArray).data.toList) = tl ∧ (unh (⟨(hex tl.data.toList).toArray⟩ : ByteArray).data.toList).isSome = true) := by
    have e : unh (⟨(hex tl.data.toList).toArray⟩ : ByteArray).data.toList = some tl.data.toList := unh_hex _
    rw [e]; exact ⟨mk_data tl, rfl⟩
  have HHS : Hid ((⟨(hex tl.data.toList).toArray⟩ : ByteArray).size ≤ 1048576) := show _ ≤ _ by
    rw [size_mk, length_hex, len_toList']; omega
  have HIS : Hid ((⟨(Lib.itoa n).toArray⟩ : ByteArray).size ≤ 1048576) := show _ ≤ _ by
    have := Lib.itoa_length_le n (by omega) (by omega)
    rw [size_mk]; omega
  have hvs := size_var n
  have hve := empty_mk _ (var_no n (by omega))
  obtain ⟨pp, hpp⟩ : ∃ pp, rv (var n ++ tl).data.toList = pp := ⟨_, rfl⟩
  have HP : Hid (_ = _) := hpp
  clear hpp
  have hff := fx_facts n tl (by omega) (by omega)
  have hfe := hff.1
  have hf7 : (((fx n 7).size : Int) != 7) = false := by rw [hff.2.1]; rfl
  have hfs : (fx n 7).size ≤ 7 := by omega
  have HQ : Hid (_ ∧ _) := ⟨hff.2.2.2, hff.2.2.1⟩
  have hn0' : (n != n) = false := by simp
  clear hff
  have HV : Hid (rd (⟨(Lib.itoa n).toArray⟩ : ByteArray).data.toList = (0, false)) := (rd_itoa n (by omega) (by omega)).trans (by rw [if_neg (by omega)])
  go_enter Tryd.func3, Tryd.ntmps3
  go_wp2_with fail
  refine (big_any a L.length cap _ (by omega)).mono ?_
  rintro e w0 ⟨rfl, rfl⟩
  rw [hbig]
  go_wp2_with fail
  refine (drawVar_any a L cap _ HL.out hlen).mono ?_
  rintro e w1 ⟨rfl, hb1⟩
  rw [HN.out]
  have HL1 : Hid (CodeAt w1 w1.heap.size a L) := code_below HL.out hb1
  have HT1 : Hid (AllLaid w1) := all_below HT.out hb1
  go_wp2_with fail
  refine (drawHex_any a L cap _ HL1.out hlen).mono ?_
  rintro e w2 ⟨rfl, hb2⟩
  rw [HTL.out]
  have HL2 : Hid (CodeAt w2 w2.heap.size a L) := code_below HL1.out hb2
  have HT2 : Hid (AllLaid w2) := all_below HT1.out hb2
  replace hb2 := hb1.trans (hb2.mono hb1.size)
  clear hb1 HL1 HT1
  go_wp2_with fail
  refine (impl_var n _).mono ?_
  rintro e w3 ⟨rfl, hb3⟩
  have HL3 : Hid (CodeAt w3 w3.heap.size a L) := code_below HL2.out hb3
  have HT3 : Hid (AllLaid w3) := all_below HT2.out hb3
  replace hb3 := hb2.trans (hb3.mono hb2.size)
  clear hb2 HL2 HT2
  go_wp2_with fail
  refine (impl_rv _ _ (by unfold maxLen; rw [ByteArray.size_append]; omega)).mono ?_
  rintro e w4 ⟨rfl, rfl⟩
  rw [HP.out]
  go_wp2_with fail
  refine (impl_fx n 7 _ (by omega)).mono ?_
  rintro e w5 ⟨rfl, hb5⟩
  have HL5 : Hid (CodeAt w5 w5.heap.size a L) := code_below HL3.out hb5
  have HT5 : Hid (AllLaid w5) := all_below HT3.out hb5
  replace hb5 := hb3.trans (hb5.mono hb3.size)
  clear hb3 HL3 HT3
  go_wp2_with fail
  refine (impl_rf _ 7 _ (by unfold maxLen; rw [ByteArray.size_append]; omega)).mono ?_
  rintro e w6 ⟨rfl, rfl⟩
  rw [HQ.out.1, HQ.out.2]
  go_wp2_with fail
  refine (impl_dec n _ (by omega) (by omega) HT5.out.1).mono ?_
  rintro e w7 ⟨rfl, hb7⟩
  have HL7 : Hid (CodeAt w7 w7.heap.size a L) := code_below HL5.out hb7
  have HT7 : Hid (AllLaid w7) := all_below HT5.out hb7
  replace hb7 := hb5.trans (hb7.mono hb5.size)
  clear hb5 HL5 HT5
  go_wp2_with fail
  refine (impl_rdec ⟨(Lib.itoa n).toArray⟩ _ HIS.out HT7.out.1 HT7.out.2.1 HT7.out.2.2).mono ?_
  rintro e w8 ⟨rfl, hb8⟩
  rw [HV.out]
  have HL8 : Hid (CodeAt w8 w8.heap.size a L) := code_below HL7.out hb8
  replace hb8 := hb7.trans (hb8.mono hb7.size)
  clear hb7 HL7 HT7
  go_wp2_with fail
  refine (impl_hex tl _ (by omega)).mono ?_
  rintro e w9 ⟨rfl, hb9⟩
  have HL9 : Hid (CodeAt w9 w9.heap.size a L) := code_below HL8.out hb9
  replace hb9 := hb8.trans (hb9.mono hb8.size)
  clear hb8 HL8
  go_wp2_with fail
  refine (impl_unhex ⟨(hex tl.data.toList).toArray⟩ _ HHS.out).mono ?_
  rintro e w10 ⟨rfl, hb10⟩
  rw [HU.out.1, HU.out.2]
  have HL10 : Hid (CodeAt w10 w10.heap.size a L) := code_below HL9.out hb10
  replace hb10 := hb9.trans (hb10.mono hb9.size)
  clear hb9 HL9
  go_wp2_with fail
  refine (drawReadVar_any a L cap _ HL10.out hlen).mono ?_
  rintro e w11 ⟨rfl, hb11⟩
  rw [HR.out]
  have HL11 : Hid (CodeAt w11 w11.heap.size a L) := code_below HL10.out hb11
  replace hb11 := hb10.trans (hb11.mono hb10.size)
  clear hb10 HL10
  go_wp2_with fail
  refine (impl_rv R _ (by unfold maxLen; omega)).mono ?_
  rintro e w12 ⟨rfl, rfl⟩
  rw [HZ.out]
  by_cases hj : zz.2 = 0
  · have hj0 : ((zz.2 : Int) == 0) = true := by rw [hj]; rfl
    clear hj
    go_wp2
    go_ret
    exact ⟨rfl, hb11⟩
  · have hs := HSND.out hj
    have hj0 : ((zz.2 : Int) == 0) = false := by rw [beq_eq_false_iff_ne]; omega
    have hjr : (zz.2 : Int) ≤ (R.size : Int) := by omega
    have hjr0 : (0 : Int) ≤ (zz.2 : Int) := by omega
    have hqq := hs.2
    clear hs hj
    go_wp2_with fail
    refine (impl_var zz.1 _).mono ?_
    rintro e w13 ⟨rfl, hb13⟩
    have HL13 : Hid (CodeAt w13 w13.heap.size a L) := code_below HL11.out hb13
    replace hb13 := hb11.trans (hb13.mono hb11.size)
    clear hb11 HL11
    go_wp2_with fail
    refine (drawReadVar_any a L cap _ HL13.out hlen).mono ?_
    rintro e w14 ⟨rfl, hb14⟩
    rw [HR.out]
    replace hb14 := hb13.trans (hb14.mono hb13.size)
    clear hb13 HL13
    go_wp2
    go_ret
    exact ⟨rfl, hb14⟩
set_option maxHeartbeats 3200000 in
set_option maxRecDepth 100000 in
theorem fn_F (a : Option Addr) (L : List UInt8) (cap : Nat) (w : World) (hl : CodeAt w w.heap.size a L) (hT : AllLaid w) (hlen : L.length ≤ 1048576) (n : Int) (hn : drawVar L = n) (h1 : 72057594037927936 ≤ n) (h2 : n ≤ 9223372036854775807) :
    Calls Tryd.prog 3 #[.slice a L.length cap] w fun e w' => e = .returned (.bool true) ∧ Below w.heap.size w w' := by
  have HN : Hid (_ = _) := hn
  clear hn
  have HL : Hid (CodeAt w w.heap.size a L) := hl
  have HT : Hid (AllLaid w) := hT
  clear hl hT
  obtain ⟨tl, htl⟩ : ∃ tl, drawHex L = tl := ⟨_, rfl⟩
  have hts : tl.size ≤ 40 := by rw [← htl]; exact size_drawHex L
  have HTL : Hid (_ = _) := htl
  clear htl
  have hbig : decide ((1048576 : Int) < (L.length : Int)) = false := by simp; omega
  obtain ⟨R, hR⟩ : ∃ R, drawReadVar L = R := ⟨_, rfl⟩
  have hRs : R.size ≤ 1000 := by rw [← hR]; exact size_drawReadVar L
  have HR : Hid (_ = _) := hR
  clear hR
  obtain ⟨zz, hzz⟩ : ∃ zz, rv R.data.toList = zz := ⟨_, rfl⟩
  have HZ : Hid (_ = _) := hzz
  have HSND : Hid (zz.2 ≠ 0 → zz.2 ≤ R.size ∧ ((var zz.1).toList == (R.extract 0 zz.2).toList) = true) := fun h => by
    rw [← hzz] at h ⊢
    have := rv_sound _ h
    have hl := len_toList' R
    refine ⟨by omega, ?_⟩
    rw [this.2, Go.ByteArray.toList_mk, Go.ByteArray.toList_eq]
    simp
  clear hzz
  have HU : Hid (unS (unh (⟨(hex tl.data.toList).toArray⟩ : ByteArray).data.toList) = tl ∧ (unh (⟨(hex tl.data.toList).toArray⟩ : ByteArray).data.toList).isSome = true) := by
    have e : unh (⟨(hex tl.data.toList).toArray⟩ : ByteArray).data.toList = some tl.data.toList := unh_hex _
    rw [e]; exact ⟨mk_data tl, rfl⟩
  have HHS : Hid ((⟨(hex tl.data.toList).toArray⟩ : ByteArray).size ≤ 1048576) := show _ ≤ _ by
    rw [size_mk, length_hex, len_toList']; omega
  have HIS : Hid ((⟨(Lib.itoa n).toArray⟩ : ByteArray).size ≤ 1048576) := show _ ≤ _ by
    have := Lib.itoa_length_le n (by omega) (by omega)
    rw [size_mk]; omega
  have hvs := size_var n
  have hve := empty_mk _ (var_no n (by omega))
  obtain ⟨pp, hpp⟩ : ∃ pp, rv (var n ++ tl).data.toList = pp := ⟨_, rfl⟩
  have HP : Hid (_ = _) := hpp
  clear hpp
  have hff := fx_none n (by omega)
  have hfe := hff.1
  have hfs : (fx n 7).size ≤ 7 := by rw [hff.2]; decide
  obtain ⟨qq, hqq1⟩ : ∃ qq, rfVal (fx n 7 ++ tl) 7 = qq := ⟨_, rfl⟩
  obtain ⟨qb, hqq2⟩ : ∃ qb, rfOk (fx n 7 ++ tl) 7 = qb := ⟨_, rfl⟩
  have HQ : Hid (_ ∧ _) := ⟨hqq1, hqq2⟩
  clear hff hqq1 hqq2
  have HV : Hid (rd (⟨(Lib.itoa n).toArray⟩ : ByteArray).data.toList = (0, false)) := (rd_itoa n (by omega) (by omega)).trans (by rw [if_neg (by omega)])
  go_enter Tryd.func3, Tryd.ntmps3
  go_wp2_with fail
  refine (big_any a L.length cap _ (by omega)).mono ?_
  rintro e w0 ⟨rfl, rfl⟩
  rw [hbig]
  go_wp2_with fail
  refine (drawVar_any a L cap _ HL.out hlen).mono ?_
  rintro e w1 ⟨rfl, hb1⟩
  rw [HN.out]
  have HL1 : Hid (CodeAt w1 w1.heap.size a L) := code_below HL.out hb1
  have HT1 : Hid (AllLaid w1) := all_below HT.out hb1
  go_wp2_with fail
  refine (drawHex_any a L cap _ HL1.out hlen).mono ?_
  rintro e w2 ⟨rfl, hb2⟩
  rw [HTL.out]
  have HL2 : Hid (CodeAt w2 w2.heap.size a L) := code_below HL1.out hb2
  have HT2 : Hid (AllLaid w2) := all_below HT1.out hb2
  replace hb2 := hb1.trans (hb2.mono hb1.size)
  clear hb1 HL1 HT1
  go_wp2_with fail
  refine (impl_var n _).mono ?_
  rintro e w3 ⟨rfl, hb3⟩
  have HL3 : Hid (CodeAt w3 w3.heap.size a L) := code_below HL2.out hb3
  have HT3 : Hid (AllLaid w3) := all_below HT2.out hb3
  replace hb3 := hb2.trans (hb3.mono hb2.size)
  clear hb2 HL2 HT2
  go_wp2_with fail
  refine (impl_rv _ _ (by unfold maxLen; rw [ByteArray.size_append]; omega)).mono ?_
  rintro e w4 ⟨rfl, rfl⟩
  rw [HP.out]
  go_wp2_with fail
  refine (impl_fx n 7 _ (by omega)).mono ?_
  rintro e w5 ⟨rfl, hb5⟩
  have HL5 : Hid (CodeAt w5 w5.heap.size a L) := code_below HL3.out hb5
  have HT5 : Hid (AllLaid w5) := all_below HT3.out hb5
  replace hb5 := hb3.trans (hb5.mono hb3.size)
  clear hb3 HL3 HT3
  go_wp2_with fail
  refine (impl_rf _ 7 _ (by unfold maxLen; rw [ByteArray.size_append]; omega)).mono ?_
  rintro e w6 ⟨rfl, rfl⟩
  rw [HQ.out.1, HQ.out.2]
  go_wp2_with fail
  refine (impl_dec n _ (by omega) (by omega) HT5.out.1).mono ?_
  rintro e w7 ⟨rfl, hb7⟩
  have HL7 : Hid (CodeAt w7 w7.heap.size a L) := code_below HL5.out hb7
  have HT7 : Hid (AllLaid w7) := all_below HT5.out hb7
  replace hb7 := hb5.trans (hb7.mono hb5.size)
  clear hb5 HL5 HT5
  go_wp2_with fail
  refine (impl_rdec ⟨(Lib.itoa n).toArray⟩ _ HIS.out HT7.out.1 HT7.out.2.1 HT7.out.2.2).mono ?_
  rintro e w8 ⟨rfl, hb8⟩
  rw [HV.out]
  have HL8 : Hid (CodeAt w8 w8.heap.size a L) := code_below HL7.out hb8
  replace hb8 := hb7.trans (hb8.mono hb7.size)
  clear hb7 HL7 HT7
  go_wp2_with fail
  refine (impl_hex tl _ (by omega)).mono ?_
  rintro e w9 ⟨rfl, hb9⟩
  have HL9 : Hid (CodeAt w9 w9.heap.size a L) := code_below HL8.out hb9
  replace hb9 := hb8.trans (hb9.mono hb8.size)
  clear hb8 HL8
  go_wp2_with fail
  refine (impl_unhex ⟨(hex tl.data.toList).toArray⟩ _ HHS.out).mono ?_
  rintro e w10 ⟨rfl, hb10⟩
  rw [HU.out.1, HU.out.2]
  have HL10 : Hid (CodeAt w10 w10.heap.size a L) := code_below HL9.out hb10
  replace hb10 := hb9.trans (hb10.mono hb9.size)
  clear hb9 HL9
  go_wp2_with fail
  refine (drawReadVar_any a L cap _ HL10.out hlen).mono ?_
  rintro e w11 ⟨rfl, hb11⟩
  rw [HR.out]
  have HL11 : Hid (CodeAt w11 w11.heap.size a L) := code_below HL10.out hb11
  replace hb11 := hb10.trans (hb11.mono hb10.size)
  clear hb10 HL10
  go_wp2_with fail
  refine (impl_rv R _ (by unfold maxLen; omega)).mono ?_
  rintro e w12 ⟨rfl, rfl⟩
  rw [HZ.out]
  by_cases hj : zz.2 = 0
  · have hj0 : ((zz.2 : Int) == 0) = true := by rw [hj]; rfl
    clear hj
    go_wp2
    go_ret
    exact ⟨rfl, hb11⟩
  · have hs := HSND.out hj
    have hj0 : ((zz.2 : Int) == 0) = false := by rw [beq_eq_false_iff_ne]; omega
    have hjr : (zz.2 : Int) ≤ (R.size : Int) := by omega
    have hjr0 : (0 : Int) ≤ (zz.2 : Int) := by omega
    have hqq := hs.2
    clear hs hj
    go_wp2_with fail
    refine (impl_var zz.1 _).mono ?_
    rintro e w13 ⟨rfl, hb13⟩
    have HL13 : Hid (CodeAt w13 w13.heap.size a L) := code_below HL11.out hb13
    replace hb13 := hb11.trans (hb13.mono hb11.size)
    clear hb11 HL11
    go_wp2_with fail
    refine (drawReadVar_any a L cap _ HL13.out hlen).mono ?_
    rintro e w14 ⟨rfl, hb14⟩
    rw [HR.out]
    replace hb14 := hb13.trans (hb14.mono hb13.size)
    clear hb13 HL13
    go_wp2
    go_ret
    exact ⟨rfl, hb14⟩
set_option maxHeartbeats 400000 in
theorem fn_big (a : Option Addr) (len cap : Nat) (w : World) (hm : len ≤ 9223372036854775807) (hb : 1048576 < len) :
    Calls Tryd.prog 3 #[.slice a len cap] w fun e w' => e = .returned (.bool true) ∧ Below w.heap.size w w' := by
  have hbig : decide ((1048576 : Int) < (len : Int)) = true := by simp; omega
  go_enter Tryd.func3, Tryd.ntmps3
  go_wp2_with fail
  refine (big_any a len cap _ hm).mono ?_
  rintro e w0 ⟨rfl, rfl⟩
  rw [hbig]
  go_wp2
  go_ret
  exact ⟨rfl, Below.refl _ _⟩
theorem fn_numbers (a : Option Addr) (L : List UInt8) (cap : Nat) (w : World) (hl : CodeAt w w.heap.size a L) (hT : AllLaid w) (hm : L.length ≤ 9223372036854775807) :
    Calls Tryd.prog 3 #[.slice a L.length cap] w fun e w' => e = .returned (.bool true) ∧ Below w.heap.size w w' := by
  by_cases hlen : L.length ≤ 1048576
  · have hb := numV_bound L (st0 L)
    have hb' : -9223372036854775808 ≤ drawVar L ∧ drawVar L ≤ 9223372036854775807 := hb
    rcases (show drawVar L < -999999999 ∨ (-999999999 ≤ drawVar L ∧ drawVar L < 0) ∨ (0 ≤ drawVar L ∧ drawVar L ≤ 999999999) ∨ (999999999 < drawVar L ∧ drawVar L ≤ 562949953421311) ∨ (562949953421311 < drawVar L ∧ drawVar L < 72057594037927936) ∨ 72057594037927936 ≤ drawVar L from by omega) with h | ⟨h, h'⟩ | ⟨h, h'⟩ | ⟨h, h'⟩ | ⟨h, h'⟩ | h
    · exact fn_A a L cap w hl hT hlen _ rfl hb'.1 h
    · exact fn_B a L cap w hl hT hlen _ rfl h h'
    · exact fn_C a L cap w hl hT hlen _ rfl h h'
    · exact fn_D a L cap w hl hT hlen _ rfl h h'
    · exact fn_E a L cap w hl hT hlen _ rfl h h'
    · exact fn_F a L cap w hl hT hlen _ rfl h hb'.2
  · exact fn_big a L.length cap w hm (by omega)
end Go.Proofs.YtglngepjphgpoaaDoor
