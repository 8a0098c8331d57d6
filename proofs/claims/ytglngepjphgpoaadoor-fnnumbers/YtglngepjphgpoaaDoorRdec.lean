/- What spec.ReadDec and impl.ReadDec answer, at texts of at most 1048576 bytes: the number of which Dec makes the text, of at most nine digits, and true; else 0 and false; old memory stays. -/
import Derived.Test.YtglngepjphgpoaaDoorLaid
import Derived.Lib.ConvBytes
namespace Go.Proofs.YtglngepjphgpoaaDoor
open Go.RowKit
open Num
set_option linter.unusedVariables false
theorem ret_rd {v : Int × Bool} {a : Int} {b : Bool} (h : v = (a, b)) : Ending.returned (.tuple #[.int .i64 a, .bool b]) = .returned (.tuple #[.int .i64 v.1, .bool v.2]) := by rw [h]
theorem len_toList' (s : ByteArray) : s.data.toList.length = s.size := by rw [Array.length_toList]; rfl
theorem sp_step (s : ByteArray) (j : Nat) (h : j < s.size) : sp (s.data.toList.take (j + 1)) = if 48 ≤ s[j].toNat ∧ s[j].toNat ≤ 57 then ((sp (s.data.toList.take j)).1 * 10 + (s[j].toNat - 48), (sp (s.data.toList.take j)).2 + 1) else sp (s.data.toList.take j) := by
  rw [take_snoc s j h, sp_snoc]
theorem sp_le (l : List UInt8) (h : l.length ≤ 11) : (sp l).1 ≤ 100000000000 ∧ (sp l).2 ≤ 11 := by
  have hb := sp_bound l
  have hp : 10 ^ (sp l).2 ≤ 10 ^ 11 := Nat.pow_le_pow_right (n := 10) (by decide) (by omega)
  omega
theorem head_is (s : ByteArray) (h : 0 < s.size) : s.data.toList.head? = some s[0] := by
  rw [List.head?_eq_getElem?, List.getElem?_eq_getElem (by rw [len_toList']; exact h)]; rfl
set_option maxHeartbeats 800000 in
set_option maxRecDepth 100000 in
theorem spec_rdec (s : ByteArray) (w : World) (hs : s.size ≤ 1048576) :
    Calls Tryd.prog 19 #[.string s] w fun e w' => e = .returned (.tuple #[.int .i64 (rd s.data.toList).1, .bool (rd s.data.toList).2]) ∧ Below w.heap.size w w' := by
  obtain ⟨v, hv⟩ : ∃ v, rd s.data.toList = v := ⟨_, rfl⟩
  have HV : Hid (_ = _) := hv
  rw [hv]
  clear hv
  go_enter Tryd.func19, Tryd.ntmps19
  go_wp2
  go_loop [4, 5, 6] (fun n k i => ∃ (j a b : Nat), j ≤ s.size ∧ j ≤ 11 ∧ i = .int .i64 j ∧ n = .int .i64 a ∧ k = .int .i64 b ∧ a ≤ 100000000000 ∧ b ≤ 11 ∧ Hid (sp (s.data.toList.take j) = (a, b))) (fun _ _ i => 11 - (intOf i).toNat)
  case atStart => exact ⟨0, 0, 0, by omega, by omega, rfl, rfl, rfl, by omega, by omega, rfl⟩
  case round =>
    obtain ⟨j, a, b, hj, hj11, rfl, rfl, rfl, ha, hb, HS⟩ := hrel
    by_cases hin : j < s.size ∧ j < 11
    · obtain ⟨h1, h2⟩ := hin
      have hc : (s[j].toNat : Int) < 256 := by have := s[j].toNat_lt; omega
      have hst := sp_step s j h1
      rw [HS.out] at hst
      have hle := sp_le (s.data.toList.take (j + 1)) (by have := List.length_take_le (j + 1) s.data.toList; omega)
      by_cases hd : 48 ≤ s[j].toNat ∧ s[j].toNat ≤ 57
      · rw [if_pos hd] at hst
        rw [hst] at hle
        have HST : Hid (_ = _) := hst
        have HLE : Hid (_ ∧ _) := hle
        obtain ⟨hd1, hd2⟩ := hd
        have hd1' : 48 ≤ (s[j].toNat : Int) := by omega
        have hd2' : (s[j].toNat : Int) ≤ 57 := by omega
        clear hst hle
        go_wp2
        go_round
        case rel => exact ⟨j + 1, _, _, by omega, by omega, by go_num, by rw [show (a : Int) * 10 + ((s[j].toNat : Int) - 48) = ((a * 10 + (s[j].toNat - 48) : Nat) : Int) from by omega], by go_num, HLE.out.1, HLE.out.2, HST⟩
        case measure => simp [intOf]; omega
      · rw [if_neg hd] at hst
        have HST : Hid (_ = _) := hst
        clear hst hle
        by_cases hd1 : 48 ≤ (s[j].toNat : Int)
        · have hd2 : ¬ (s[j].toNat : Int) ≤ 57 := by omega
          clear hd
          go_wp2
          go_round
          case rel => exact ⟨j + 1, a, b, by omega, by omega, by go_num, rfl, rfl, ha, hb, HST⟩
          case measure => simp [intOf]; omega
        · clear hd
          go_wp2
          go_round
          case rel => exact ⟨j + 1, a, b, by omega, by omega, by go_num, rfl, rfl, ha, hb, HST⟩
          case measure => simp [intOf]; omega
    · by_cases hbig : 10 < s.size
      · have HR : Hid (v = _) := HV.out.symm.trans (rd_no _ (fun h => by have := h.2.1; rw [len_toList'] at this; omega))
        have hbi : (10 : Int) < (s.size : Int) := by omega
        go_wp2
        all_goals
          go_ret2
          exact ⟨ret_rd HR.out, Below.refl _ _⟩
      · have hjs : j = s.size := by omega
        subst hjs
        have hsl := HS.out
        rw [List.take_of_length_le (by rw [len_toList']; omega)] at hsl
        have HSL : Hid (_ = _) := hsl
        clear hsl
        by_cases h9 : 9 < b
        · have HR : Hid (v = _) := HV.out.symm.trans (rd_no _ (fun h => by have := h.1; rw [HSL.out] at this; simp only [] at this; omega))
          have h9' : (9 : Int) < (b : Int) := by omega
          go_wp2
          all_goals
            go_ret2
            exact ⟨ret_rd HR.out, Below.refl _ _⟩
        · have h9' : ¬ (9 : Int) < (b : Int) := by omega
          have hb10 : ¬ (10 : Int) < (s.size : Int) := by omega
          by_cases h0 : 0 < s.size
          · have hh := head_is s h0
            by_cases hm : s[0].toNat = 45
            · have HN : Hid (spN s.data.toList = -(a : Int)) := by
                show _ = _
                unfold spN
                rw [hh, if_pos (by rw [show s[0] = 45 from by apply UInt8.toNat.inj; rw [hm]; rfl]), HSL.out]
              have hm' : ((s[0].toNat : Int) == 45) = true := by rw [hm]; rfl
              clear hh hm
              by_cases he : Lib.itoa (-(a : Int)) = s.data.toList
              · have HR : Hid (v = _) := HV.out.symm.trans ((rd_yes _ ⟨by rw [HSL.out]; simp only []; omega, by rw [len_toList']; omega, by rw [HN.out]; exact he⟩).trans (by rw [HN.out]))
                have hq : (Lib.itoa (-(a : Int)) == s.toList) = true := by rw [Go.ByteArray.toList_eq, he]; simp
                clear he
                go_wp2_with (go_at_call 18; refine (spec_dec _ _ (by omega) (by omega)).mono ?_; rintro e w2 ⟨rfl, hb2⟩)
                go_ret2
                exact ⟨ret_rd HR.out, hb2⟩
              · have HR : Hid (v = _) := HV.out.symm.trans (rd_no _ (fun h => he (by have := h.2.2; rw [HN.out] at this; exact this)))
                have hq : (Lib.itoa (-(a : Int)) == s.toList) = false := by rw [Go.ByteArray.toList_eq]; simpa using he
                clear he
                go_wp2_with (go_at_call 18; refine (spec_dec _ _ (by omega) (by omega)).mono ?_; rintro e w2 ⟨rfl, hb2⟩)
                go_ret2
                exact ⟨ret_rd HR.out, hb2⟩
            · have HN : Hid (spN s.data.toList = (a : Int)) := by
                show _ = _
                unfold spN
                rw [hh, if_neg (by intro e; apply hm; have := Option.some.inj e; rw [this]; rfl), HSL.out]
              have hm' : ((s[0].toNat : Int) == 45) = false := by simp; omega
              clear hh hm
              by_cases he : Lib.itoa ((a : Int)) = s.data.toList
              · have HR : Hid (v = _) := HV.out.symm.trans ((rd_yes _ ⟨by rw [HSL.out]; simp only []; omega, by rw [len_toList']; omega, by rw [HN.out]; exact he⟩).trans (by rw [HN.out]))
                have hq : (Lib.itoa ((a : Int)) == s.toList) = true := by rw [Go.ByteArray.toList_eq, he]; simp
                clear he
                go_wp2_with (go_at_call 18; refine (spec_dec _ _ (by omega) (by omega)).mono ?_; rintro e w2 ⟨rfl, hb2⟩)
                go_ret2
                exact ⟨ret_rd HR.out, hb2⟩
              · have HR : Hid (v = _) := HV.out.symm.trans (rd_no _ (fun h => he (by have := h.2.2; rw [HN.out] at this; exact this)))
                have hq : (Lib.itoa ((a : Int)) == s.toList) = false := by rw [Go.ByteArray.toList_eq]; simpa using he
                clear he
                go_wp2_with (go_at_call 18; refine (spec_dec _ _ (by omega) (by omega)).mono ?_; rintro e w2 ⟨rfl, hb2⟩)
                go_ret2
                exact ⟨ret_rd HR.out, hb2⟩
          · have hn0 : s.data.toList = [] := List.eq_nil_of_length_eq_zero (by rw [len_toList']; omega)
            have HN : Hid (spN s.data.toList = (a : Int)) := by
              show _ = _
              unfold spN
              rw [HSL.out, hn0]; rfl
            have hs0 : ¬ (0 : Int) < (s.size : Int) := by omega
            clear hn0
            by_cases he : Lib.itoa ((a : Int)) = s.data.toList
            · have HR : Hid (v = _) := HV.out.symm.trans ((rd_yes _ ⟨by rw [HSL.out]; simp only []; omega, by rw [len_toList']; omega, by rw [HN.out]; exact he⟩).trans (by rw [HN.out]))
              have hq : (Lib.itoa ((a : Int)) == s.toList) = true := by rw [Go.ByteArray.toList_eq, he]; simp
              clear he
              go_wp2_with (go_at_call 18; refine (spec_dec _ _ (by omega) (by omega)).mono ?_; rintro e w2 ⟨rfl, hb2⟩)
              go_ret2
              exact ⟨ret_rd HR.out, hb2⟩
            · have HR : Hid (v = _) := HV.out.symm.trans (rd_no _ (fun h => he (by have := h.2.2; rw [HN.out] at this; exact this)))
              have hq : (Lib.itoa ((a : Int)) == s.toList) = false := by rw [Go.ByteArray.toList_eq]; simpa using he
              clear he
              go_wp2_with (go_at_call 18; refine (spec_dec _ _ (by omega) (by omega)).mono ?_; rintro e w2 ⟨rfl, hb2⟩)
              go_ret2
              exact ⟨ret_rd HR.out, hb2⟩
theorem below_bytesWorld (w : World) (e : TypeId) (t : ByteArray) : Below w.heap.size w (Lib.bytesWorld w e t) :=
  ⟨rfl, rfl, rfl, by rw [Lib.bytesWorld_size]; omega, fun k hk => Lib.bytesWorld_at_old w e t k hk⟩
/-- strconv.Atoi, where the text spells no int: some number, and an error that is not nil. -/
theorem atoi_err (s : ByteArray) (hlim : s.size ≤ 281474976710656) (h : ∀ v, Lib.atoiAll s.data.toList ≠ .ok v) (w : World) (hes : Err "strconv.ErrSyntax" w) (her : Err "strconv.ErrRange" w) :
    Calls Tryd.prog 25 #[.string s] w fun e w' => ∃ (x : Int) (N : Nat), e = .returned (.tuple #[.int .i64 x, .iface 61 (.pointer (some ⟨N, 0, none⟩))]) ∧ Below w.heap.size w w' := by
  obtain ⟨tp, p, hv⟩ := hes
  obtain ⟨tq, q, hr⟩ := her
  rcases hh : Lib.atoiAll s.data.toList with v | _ | _
  · exact absurd hh (h v)
  · have hc : Calls Tryd.prog 25 #[.string s] w fun e w' => ∃ N, e = .returned (.tuple #[.int .i64 0, .iface 61 (.pointer (some ⟨N, 0, none⟩))]) ∧ w.heap.size ≤ N ∧ w'.heap[N]? = some (.cells #[.string ⟨#[65, 116, 111, 105]⟩, .string s, .iface tp p] 69 (0, 0)) ∧ Below w.heap.size w w' :=
      Any.strconv_Atoi_syntax_var Tryd.laysC172 s hlim hh tp p w hv
    exact hc.mono fun e w' ⟨N, he, _, _, hb⟩ => ⟨0, N, he, hb⟩
  · have hc : Calls Tryd.prog 25 #[.string s] w fun e w' => ∃ N, e = .returned (.tuple #[.int .i64 (Lib.atoiSat s.data.toList), .iface 61 (.pointer (some ⟨N, 0, none⟩))]) ∧ w.heap.size ≤ N ∧ w'.heap[N]? = some (.cells #[.string ⟨#[65, 116, 111, 105]⟩, .string s, .iface tq q] 69 (0, 0)) ∧ Below w.heap.size w w' :=
      Any.strconv_Atoi_range_var Tryd.laysC172 s hlim hh tq q w hr
    exact hc.mono fun e w' ⟨N, he, _, _, hb⟩ => ⟨_, N, he, hb⟩
theorem rd_err (l : List UInt8) (h : ∀ v, Lib.atoiAll l ≠ .ok v) : rd l = (0, false) := by
  unfold rd
  split
  · rename_i v hv; exact absurd hv (h v)
  · rfl
theorem rd_ok (l : List UInt8) (v : Int) (h : Lib.atoiAll l = .ok v) : rd l = if -999999999 ≤ v ∧ v ≤ 999999999 ∧ Lib.itoa v = l then (v, true) else (0, false) := by
  unfold rd; rw [h]
set_option maxHeartbeats 400000 in
theorem impl_rdec_err (s : ByteArray) (w : World) (hs : s.size ≤ 1048576) (hes : Err "strconv.ErrSyntax" w) (her : Err "strconv.ErrRange" w) (h : ∀ v, Lib.atoiAll s.data.toList ≠ .ok v) :
    Calls Tryd.prog 13 #[.string s] w fun e w' => e = .returned (.tuple #[.int .i64 (rd s.data.toList).1, .bool (rd s.data.toList).2]) ∧ Below w.heap.size w w' := by
  rw [rd_err _ h]
  have HE : Hid (Calls Tryd.prog 25 #[.string s] w fun e w' => ∃ (x : Int) (N : Nat), e = .returned (.tuple #[.int .i64 x, .iface 61 (.pointer (some ⟨N, 0, none⟩))]) ∧ Below w.heap.size w w') := atoi_err s (by omega) h w hes her
  clear hes her h
  go_enter Tryd.func13, Tryd.ntmps13
  go_wp2_with fail
  refine HE.out.mono ?_
  rintro e w2 ⟨x, N, rfl, hb2⟩
  go_wp2
  go_ret2
  exact ⟨rfl, hb2⟩
set_option maxHeartbeats 400000 in
theorem impl_rdec_ok (s : ByteArray) (w : World) (hs : s.size ≤ 1048576) (ht : Tab w) (v : Int) (h : Lib.atoiAll s.data.toList = .ok v) :
    Calls Tryd.prog 13 #[.string s] w fun e w' => e = .returned (.tuple #[.int .i64 (rd s.data.toList).1, .bool (rd s.data.toList).2]) ∧ Below w.heap.size w w' := by
  have hr := rd_ok _ v h
  have hvb := Lib.atoiAll_bounds h
  have HC : Hid (Calls Tryd.prog 25 #[.string s] w fun e w' => e = .returned (.tuple #[.int .i64 v, .nilIface]) ∧ Below w.heap.size w w') :=
    (Tryd.atoi_ok s (by omega) v h w).mono fun e w' ⟨he, hw⟩ => ⟨he, by rcases hw with rfl | ⟨t, rfl⟩; exact Below.refl _ _; exact below_bytesWorld _ _ _⟩
  have HT : Hid (Tab w) := ht
  clear h ht
  by_cases hlo : v < -999999999
  · rw [hr, if_neg (by omega)]
    clear hr
    go_enter Tryd.func13, Tryd.ntmps13
    go_wp2_with fail
    refine HC.out.mono ?_
    rintro e w2 ⟨rfl, hb2⟩
    go_wp2
    go_ret2
    exact ⟨rfl, hb2⟩
  · by_cases hhi : 999999999 < v
    · rw [hr, if_neg (by omega)]
      clear hr
      go_enter Tryd.func13, Tryd.ntmps13
      go_wp2_with fail
      refine HC.out.mono ?_
      rintro e w2 ⟨rfl, hb2⟩
      go_wp2
      go_ret2
      exact ⟨rfl, hb2⟩
    · by_cases he : Lib.itoa v = s.data.toList
      · rw [hr, if_pos ⟨by omega, by omega, he⟩]
        have hq : (Lib.itoa v == s.toList) = true := by rw [Go.ByteArray.toList_eq, he]; simp
        clear hr he
        go_enter Tryd.func13, Tryd.ntmps13
        go_wp2_with fail
        refine HC.out.mono ?_
        rintro e w2 ⟨rfl, hb2⟩
        have HT2 : Hid (Tab w2) := tab_below HT.out hb2
        go_wp2_with fail
        refine (impl_dec v _ hvb.1 hvb.2 HT2.out).mono ?_
        rintro e w3 ⟨rfl, hb3⟩
        go_wp2
        go_ret2
        exact ⟨rfl, hb2.trans (hb3.mono hb2.size)⟩
      · rw [hr, if_neg (fun hx => he hx.2.2)]
        have hq : (Lib.itoa v == s.toList) = false := by rw [Go.ByteArray.toList_eq]; simpa using he
        clear hr he
        go_enter Tryd.func13, Tryd.ntmps13
        go_wp2_with fail
        refine HC.out.mono ?_
        rintro e w2 ⟨rfl, hb2⟩
        have HT2 : Hid (Tab w2) := tab_below HT.out hb2
        go_wp2_with fail
        refine (impl_dec v _ hvb.1 hvb.2 HT2.out).mono ?_
        rintro e w3 ⟨rfl, hb3⟩
        go_wp2
        go_ret2
        exact ⟨rfl, hb2.trans (hb3.mono hb2.size)⟩
theorem impl_rdec (s : ByteArray) (w : World) (hs : s.size ≤ 1048576) (ht : Tab w) (hes : Err "strconv.ErrSyntax" w) (her : Err "strconv.ErrRange" w) :
    Calls Tryd.prog 13 #[.string s] w fun e w' => e = .returned (.tuple #[.int .i64 (rd s.data.toList).1, .bool (rd s.data.toList).2]) ∧ Below w.heap.size w w' := by
  by_cases h : ∃ v, Lib.atoiAll s.data.toList = .ok v
  · obtain ⟨v, h⟩ := h
    exact impl_rdec_ok s w hs ht v h
  · exact impl_rdec_err s w hs hes her (fun v hv => h ⟨v, hv⟩)
end Go.Proofs.YtglngepjphgpoaaDoor
