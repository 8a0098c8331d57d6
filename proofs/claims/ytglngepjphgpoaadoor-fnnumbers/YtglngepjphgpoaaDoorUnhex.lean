/- What spec.Unhex and impl.Unhex answer, at strings of at most 1048576 bytes: the text of which Hex makes s, and true, or nothing and false; old memory stays. -/
import Derived.Test.YtglngepjphgpoaaDoorHex
namespace Go.Proofs.YtglngepjphgpoaaDoor
open Go.RowKit
open Num
set_option linter.unusedVariables false
def hv (x : Int) : Int := if 48 ≤ x ∧ x ≤ 57 then x - 48 else if 97 ≤ x ∧ x ≤ 102 then x - 87 else -1
theorem hv_bound (x : Int) : -1 ≤ hv x ∧ hv x ≤ 15 := by
  unfold hv; split
  · omega
  · split <;> omega
theorem hexd_toNat (k : Nat) (h : k < 16) : ((hexd k).toNat : Int) = if k < 10 then 48 + (k : Int) else 87 + (k : Int) := by
  rcases (show k = 0 ∨ k = 1 ∨ k = 2 ∨ k = 3 ∨ k = 4 ∨ k = 5 ∨ k = 6 ∨ k = 7 ∨ k = 8 ∨ k = 9 ∨ k = 10 ∨ k = 11 ∨ k = 12 ∨ k = 13 ∨ k = 14 ∨ k = 15 from by omega) with rfl | rfl | rfl | rfl | rfl | rfl | rfl | rfl | rfl | rfl | rfl | rfl | rfl | rfl | rfl | rfl <;> rfl
theorem hv_hit (k : Nat) (h : k < 16) (x : Int) (e : ((hexd k).toNat : Int) = x) : hv x = k := by
  rw [hexd_toNat k h] at e
  unfold hv
  by_cases hk : k < 10
  · rw [if_pos hk] at e; rw [if_pos (by omega)]; omega
  · rw [if_neg hk] at e; rw [if_neg (by omega), if_pos (by omega)]; omega
theorem hv_miss (x : Int) (h : ∀ j : Nat, j < 16 → ((hexd j).toNat : Int) ≠ x) : hv x = -1 := by
  unfold hv
  rw [if_neg, if_neg]
  · intro hx
    refine h (x - 87).toNat (by omega) ?_
    rw [hexd_toNat _ (by omega), if_neg (by omega)]; omega
  · intro hx
    refine h (x - 48).toNat (by omega) ?_
    rw [hexd_toNat _ (by omega), if_pos (by omega)]; omega
def unh : List UInt8 → Option (List UInt8)
  | [] => some []
  | [_] => none
  | a :: b :: l => if hv a.toNat < 0 ∨ hv b.toNat < 0 then none else (unh l).map (UInt8.ofNat (16 * hv a.toNat + hv b.toNat).toNat :: ·)
theorem unh_odd : ∀ l : List UInt8, l.length % 2 = 1 → unh l = none
  | [], h => by simp at h
  | [_], _ => rfl
  | a :: b :: l, h => by
    rw [unh, unh_odd l (by simp at h; omega)]; simp
def unS : Option (List UInt8) → ByteArray
  | some l => ⟨l.toArray⟩
  | none => ⟨#[]⟩
set_option maxHeartbeats 400000 in
theorem hexvalue_any (x : Int) (w : World) (h0 : 0 ≤ x) (h1 : x < 256) :
    Calls Tryd.prog 27 #[.int .u8 x] w fun e w' => e = .returned (.int .i64 (hv x)) ∧ w' = w := by
  have hv' : hv x = if 48 ≤ x ∧ x ≤ 57 then x - 48 else if 97 ≤ x ∧ x ≤ 102 then x - 87 else -1 := rfl
  rcases (show x < 48 ∨ (48 ≤ x ∧ x ≤ 57) ∨ (57 < x ∧ x < 97) ∨ (97 ≤ x ∧ x ≤ 102) ∨ 102 < x from by omega) with h | ⟨h, h'⟩ | ⟨h, h'⟩ | ⟨h, h'⟩ | h
  · rw [if_neg (by omega), if_neg (by omega)] at hv'
    rw [hv']; clear hv'
    go_enter Tryd.func27, Tryd.ntmps27
    go_wp2
    go_ret
    exact ⟨rfl, rfl⟩
  · rw [if_pos (by omega)] at hv'
    rw [hv']; clear hv'
    go_enter Tryd.func27, Tryd.ntmps27
    go_wp2
    go_ret
    exact ⟨rfl, rfl⟩
  · rw [if_neg (by omega), if_neg (by omega)] at hv'
    rw [hv']; clear hv'
    go_enter Tryd.func27, Tryd.ntmps27
    go_wp2
    go_ret
    exact ⟨rfl, rfl⟩
  · rw [if_neg (by omega), if_pos (by omega)] at hv'
    rw [hv']; clear hv'
    go_enter Tryd.func27, Tryd.ntmps27
    go_wp2
    go_ret
    exact ⟨ret_i64 (by omega), rfl⟩
  · rw [if_neg (by omega), if_neg (by omega)] at hv'
    rw [hv']; clear hv'
    go_enter Tryd.func27, Tryd.ntmps27
    go_wp2
    go_ret
    exact ⟨rfl, rfl⟩
theorem drop_two (s : ByteArray) (k : Nat) (h : 2 * k + 1 < s.size) : s.data.toList.drop (2 * k) = s[2 * k] :: s[2 * k + 1] :: s.data.toList.drop (2 * (k + 1)) := by
  have hl := len_toList' s
  rw [List.drop_eq_getElem_cons (by omega), List.drop_eq_getElem_cons (by omega)]; rfl
theorem unh_bad (s : ByteArray) (k : Nat) (h : 2 * k + 1 < s.size) (hb : hv s[2 * k].toNat < 0 ∨ hv s[2 * k + 1].toNat < 0) : unh (s.data.toList.drop (2 * k)) = none := by
  rw [drop_two s k h, unh, if_pos hb]
theorem unh_on (s : ByteArray) (k : Nat) (h : 2 * k + 1 < s.size) (h0 : 0 ≤ hv s[2 * k].toNat) (h1 : 0 ≤ hv s[2 * k + 1].toNat) (cs : List UInt8) :
    (unh (s.data.toList.drop (2 * k))).map (cs ++ ·) = (unh (s.data.toList.drop (2 * (k + 1)))).map ((cs ++ [UInt8.ofNat (16 * hv s[2 * k].toNat + hv s[2 * k + 1].toNat).toNat]) ++ ·) := by
  rw [drop_two s k h, unh, if_neg (by omega), Option.map_map]
  congr 1
  funext l
  simp
theorem unh_end (s : ByteArray) (k : Nat) (h : s.size ≤ 2 * k) (cs : List UInt8) : (unh (s.data.toList.drop (2 * k))).map (cs ++ ·) = some cs := by
  have hl := len_toList' s
  rw [List.drop_eq_nil_of_le (by omega)]; simp [unh]
theorem ret_unh {v : Option (List UInt8)} {a : ByteArray} {b : Bool} (ha : a = unS v) (hb : b = v.isSome) : Ending.returned (.tuple #[.string a, .bool b]) = .returned (.tuple #[.string (unS v), .bool v.isSome]) := by rw [ha, hb]
theorem row_unh {cs : List UInt8} {c : UInt8} {k m : Nat} (hl : cs.length = k) (h : k < m) {w : World} {g : Nat} (ho : w.heap[g]? = some (.cells ((splice (cs ++ List.replicate (m - k) 0) k [c]).map u8v).toArray 5 (0, 0))) :
    w.heap[g]? = some (.cells (((cs ++ [c]) ++ List.replicate (m - (k + 1)) 0).map u8v).toArray 5 (0, 0)) := by
  rw [ho, splice_fill _ _ k m hl (by simp; omega)]; rfl
theorem byte_nn (c : UInt8) : (0 : Int) ≤ (c.toNat : Int) := by omega
theorem byte_lt (c : UInt8) : (c.toNat : Int) < 256 := by have := c.toNat_lt; omega
theorem i64_two (k : Nat) (h : k ≤ 1099511627776) : IntKind.i64.wrap (2 * (k : Int)) = 2 * (k : Int) := by
  rw [IntKind.wrap_i64]; omega
theorem i64_two1 (k : Nat) (h : k ≤ 1099511627776) : IntKind.i64.wrap (2 * (k : Int) + 1) = 2 * (k : Int) + 1 := by
  rw [IntKind.wrap_i64]; omega
theorem toNat_two (k : Nat) : (2 * (k : Int)).toNat = 2 * k := by omega
theorem toNat_two1 (k : Nat) : (2 * (k : Int) + 1).toNat = 2 * k + 1 := by omega
section
attribute [local go_sem] i64_two i64_two1 toNat_two toNat_two1
set_option maxHeartbeats 800000 in
set_option maxRecDepth 100000 in
theorem impl_unh (s : ByteArray) (w : World) (hs : s.size ≤ 1048576) (he : s.size % 2 = 0) :
    Calls Tryd.prog 15 #[.string s] w fun e w' => e = .returned (.tuple #[.string (unS (unh s.data.toList)), .bool (unh s.data.toList).isSome]) ∧ Below w.heap.size w w' := by
  obtain ⟨v, hv0⟩ : ∃ v, v = unh s.data.toList := ⟨_, rfl⟩
  have HV : Hid (v = (unh (s.data.toList.drop (2 * 0))).map ([] ++ ·)) := by
    show _ = _
    rw [hv0]; simp
  rw [← hv0]
  clear hv0
  obtain ⟨i0, hi, hz0, hz1, hz2⟩ := info5f
  have he' : ((s.size : Int) % 2 != 0) = false := by simp; omega
  obtain ⟨m, hm⟩ : ∃ m, s.size = 2 * m := ⟨s.size / 2, by omega⟩
  have HM : Hid (s.size = 2 * m) := hm
  have hm1 : m ≤ 524288 := by omega
  clear hm
  go_enter Tryd.func15, Tryd.ntmps15
  go_wp2_with (at_make; refine wpList_make_full _ rfl _ _ 22 rfl w.heap.size 5 i0 (.int .u8 0) 1 Tryd.underlying22 hi hz0 hz1 _ _ _ _ m rfl rfl (by have := HM.out; omega) (by have := HM.out; omega) (by rw [hz2]; omega) (by unfold maxLen; omega) (Nat.le_refl _) ?_; intro w1 hown hgr)
  have hrow := own_whole hown
  rw [made_zero] at hrow
  have HR : Hid (_ = _) := hrow
  have hb1 := below_of_grown hgr
  clear hown hgr hrow
  go_loopw [5] (fun i wr => ∃ (k : Nat) (cs : List UInt8), k ≤ m ∧ i = .int .i64 k ∧ Hid (cs.length = k) ∧ Hid (wr.heap[w.heap.size]? = some (.cells ((cs ++ List.replicate (m - k) 0).map u8v).toArray 5 (0, 0))) ∧ Hid (v = (unh (s.data.toList.drop (2 * k))).map (cs ++ ·)) ∧ Below w.heap.size w wr) (fun i _ => m - (intOf i).toNat)
  case atStart => exact ⟨0, [], by omega, rfl, rfl, HR, HV, hb1⟩
  case round =>
    clear HV HR hb1 w1
    obtain ⟨k, cs, hk, rfl, HL, HR, HG, hb⟩ := hrel
    have hsz : w.heap.size < wr.heap.size := (Array.getElem?_eq_some_iff.1 HR.out).1
    by_cases hlt : (k : Int) < (m : Int)
    · have hk1 : 2 * k + 1 < s.size := by have := HM.out; omega
      have hi1 : 2 * (k : Int) + 1 < (s.size : Int) := by omega
      have hi2 : 2 * (k : Int) < (s.size : Int) := by omega
      have hi3 : (0 : Int) ≤ 2 * (k : Int) := by omega
      have hba := hv_bound s[2 * k].toNat
      have hbb := hv_bound s[2 * k + 1].toNat
      have HBAD : Hid (_ → _) := unh_bad s k hk1
      have HON : Hid (_ → _ → ∀ cs, _) := unh_on s k hk1
      generalize hA : hv s[2 * k].toNat = A at hba HBAD HON
      generalize hB : hv s[2 * k + 1].toNat = B at hbb HBAD HON
      have HA : Hid (_ = _) := hA
      have HB : Hid (_ = _) := hB
      clear hA hB
      have hkk : k ≤ 1099511627776 := by omega
      go_wp2
      go_region_held3 (fun _ => True) (exact trivial) ((go_at_call 27; refine (hexvalue_any _ _ (byte_nn _) (byte_lt _)).mono ?_; rintro e w' ⟨rfl, rfl⟩; first | rw [HA.out] | rw [HB.out]))
      all_goals
        by_cases ha : A < 0
        · have HN : Hid (v = none) := HG.out.trans (by rw [HBAD.out (Or.inl ha)]; rfl)
          clear HBAD HON HG HA HB
          go_wp2
          go_ret2
          exact ⟨ret_unh (by rw [HN.out]; rfl) (by rw [HN.out]; rfl), hb.drew⟩
        · by_cases hb0 : B < 0
          · have HN : Hid (v = none) := HG.out.trans (by rw [HBAD.out (Or.inr hb0)]; rfl)
            clear HBAD HON HG HA HB
            go_wp2
            go_ret2
            exact ⟨ret_unh (by rw [HN.out]; rfl) (by rw [HN.out]; rfl), hb.drew⟩
          · have HG' : Hid (v = _) := HG.out.trans (HON.out (by omega) (by omega) cs)
            have hx0 : 0 ≤ A * 16 + B := by omega
            have hx1 : A * 16 + B < 256 := by omega
            have HO : Hid (_ = _) := one_row wr _ hx0 hx1
            have HLL : Hid (_ = _) := show (cs ++ List.replicate (m - k) (0 : UInt8)).length = m by have := HL.out; simp; omega
            clear HBAD HON HG HA HB
            go_wp2_with fail
            refine (impl_pb' w.heap.size wr.heap.size k m 1 _ rfl (cs ++ List.replicate (m - k) 0) [UInt8.ofNat (A * 16 + B).toNat] _ ?_ HLL.out ?_ rfl (by omega) (by omega) (by omega) w.heap.size (Nat.le_refl _)).mono ?_
            · show (wr.alloc _).heap[_]? = _
              rw [Below.heap_alloc _ _ _ hsz]; exact HR.out
            · exact HO.out
            · rintro e w2 ⟨rfl, hr2, hb2⟩
              have HR2 : Hid (_) := row_unh HL.out (by omega) hr2
              have hb3 := (hb.alloc hb.size _).drew.trans hb2
              clear hr2 hb2
              go_wp2
              go_roundw
              case rel =>
                refine ⟨k + 1, cs ++ [UInt8.ofNat (A * 16 + B).toNat], by omega, by go_num, ?_, HR2, ?_, hb3⟩
                · show _ = _
                  have := HL.out; simp; omega
                · rw [show A * 16 + B = 16 * A + B from by omega]; exact HG'
              case measure => simp [intOf]; omega
    · have HE : Hid (v = some cs) := HG.out.trans (unh_end s k (by have := HM.out; omega) cs)
      have hkm : k = m := by omega
      subst hkm
      have hcv := run_str_row (P := Tryd.prog) wr 22 9 5 Tryd.underlying22 Tryd.underlying5 Tryd.underlying9 w.heap.size k cs _ 5 (0, 0) HR.out
      rw [HL.out] at hcv
      go_wp2
      go_ret2
      exact ⟨ret_unh (by rw [HE.out]; rfl) (by rw [HE.out]; rfl), hb⟩
end
set_option maxHeartbeats 400000 in
theorem impl_unh_odd (s : ByteArray) (w : World) (hs : s.size ≤ 1048576) (he : s.size % 2 = 1) :
    Calls Tryd.prog 15 #[.string s] w fun e w' => e = .returned (.tuple #[.string (unS (unh s.data.toList)), .bool (unh s.data.toList).isSome]) ∧ Below w.heap.size w w' := by
  rw [unh_odd _ (by rw [len_toList']; exact he)]
  have he' : ((s.size : Int) % 2 != 0) = true := by simp; omega
  go_enter Tryd.func15, Tryd.ntmps15
  go_wp2
  go_ret2
  exact ⟨rfl, Below.refl _ _⟩
theorem impl_unhex (s : ByteArray) (w : World) (hs : s.size ≤ 1048576) :
    Calls Tryd.prog 15 #[.string s] w fun e w' => e = .returned (.tuple #[.string (unS (unh s.data.toList)), .bool (unh s.data.toList).isSome]) ∧ Below w.heap.size w w' := by
  by_cases he : s.size % 2 = 0
  · exact impl_unh s w hs he
  · exact impl_unh_odd s w hs (by omega)
end Go.Proofs.YtglngepjphgpoaaDoor
