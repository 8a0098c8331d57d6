/- What impl.ReadVals answers; old memory stays. Conditions: texts of at most 2 to the 40 bytes. -/
import Derived.Test.YtaeokecodejpdaaDoorRd
namespace Go.Proofs.YtaeokecodejpdaaDoor
open Go.RowKit
open Num
set_option linter.unusedVariables false
set_option maxHeartbeats 1600000 in
set_option maxRecDepth 100000 in
theorem impl_read (s : ByteArray) (w : World) (hs : s.size ≤ 1099511627776) :
    Calls Tryd.prog 9 #[.string s] w fun e w' => ∃ v, e = .returned (.tuple #[v, .bool (readV s).2]) ∧ OwnV w' w.heap.size v (readV s).1 ∧ Below w.heap.size w w' := by
  obtain ⟨i0, hinf, hz0, hz1, hz2⟩ := info33f
  have kR0 := impl_rv s w (by unfold maxLen; omega)
  rw [show rv s.data.toList = rvAt s 0 from rfl] at kR0
  obtain ⟨⟨c, a⟩, hr⟩ : ∃ r, rvAt s 0 = r := ⟨_, rfl⟩
  have hbd := rvAt_bound s 0
  rw [hr] at hbd kR0
  simp only at hbd kR0
  by_cases ha0 : a = 0
  · have HE : Hid (readV s = ([], false)) := readV_no0 (.inl (by rw [hr]; exact ha0))
    subst ha0
    clear hr hbd
    go_enter Tryd.func9, Tryd.ntmps9
    go_wp2_with fail
    refine kR0.mono ?_
    rintro e w1 ⟨rfl, rfl⟩
    go_wp2
    go_ret2
    rw [HE.out]
    exact ⟨_, rfl, OwnV.nil _ _, Below.refl _ _⟩
  by_cases hc7 : 7 < c
  · have HE : Hid (readV s = ([], false)) := readV_no0 (.inr (by rw [hr]; exact hc7))
    have haz : ¬ (a : Int) = 0 := by omega
    clear hr hbd
    go_enter Tryd.func9, Tryd.ntmps9
    go_wp2_with fail
    refine kR0.mono ?_
    rintro e w1 ⟨rfl, rfl⟩
    go_wp2
    go_ret2
    rw [HE.out]
    exact ⟨_, rfl, OwnV.nil _ _, Below.refl _ _⟩
  have haz : ¬ (a : Int) = 0 := by omega
  obtain ⟨cn, rfl⟩ : ∃ cn : Nat, c = (cn : Int) := ⟨c.toNat, by omega⟩
  have HEQ : Hid (readV s = bif decide (showV (rdl s a cn) = s) then (rdl s a cn, true) else ([], false)) := by
    have := readV_eq (s := s) (by rw [hr]; show 0 < a; omega) (by rw [hr]; show (cn : Int) ≤ 7; omega)
    rw [hr] at this
    simp only [Int.toNat_natCast] at this
    exact this
  have hal : a ≤ s.size := by omega
  have hspos : 0 < s.size := by omega
  have hcn7 : cn ≤ 7 := by omega
  have hcz : (cn : Int) ≤ 7 := by omega
  have hab : ((a : Int) == 0) = false := beq_eq_false_iff_ne.2 haz
  clear hr hbd hc7
  go_enter Tryd.func9, Tryd.ntmps9
  go_wp2_with fail
  refine kR0.mono ?_
  rintro e w1 ⟨rfl, rfl⟩
  go_wp2
  go_loopw [23, 6, 5] (fun iv ov av wr => ∃ (k : Nat) (q : Value), k ≤ cn ∧ iv = .int .i64 k ∧ q = ov ∧ av = .int .i64 (atJ s a k : Nat) ∧ Hid (OwnV wr w1.heap.size q (rdl s a k)) ∧ Below w1.heap.size w1 wr) (fun iv _ _ _ => cn - (intOf iv).toNat)
  case atStart => exact ⟨0, _, Nat.zero_le _, rfl, rfl, rfl, OwnV.nil _ _, Below.refl _ _⟩
  case round =>
    obtain ⟨k, q, hk, rfl, rfl, rfl, HO, hb⟩ := hrel
    obtain ⟨p, hp⟩ : ∃ p, atJ s a k = p := ⟨_, rfl⟩
    have hpl : p ≤ s.size := by rw [← hp]; exact atJ_le s a hal k
    have HP : Hid (atJ s a k = p) := hp
    rw [hp]
    clear hp
    by_cases hlt : k < cn
    · have hltz : (k : Int) < (cn : Int) := by omega
      obtain ⟨⟨x, m⟩, hr1⟩ : ∃ r, rvAt s p = r := ⟨_, rfl⟩
      have hb1 := rvAt_bound s p
      rw [hr1] at hb1
      simp only at hb1
      obtain ⟨⟨y, n⟩, hr2⟩ : ∃ r, rvAt s (p + m) = r := ⟨_, rfl⟩
      have hb2 := rvAt_bound s (p + m)
      rw [hr2] at hb2
      simp only at hb2
      have hR1 := fun W => impl_rv (s.extract p s.size) W (by unfold maxLen; rw [ByteArray.size_extract]; omega)
      rw [drop_ext, show rv (s.data.toList.drop p) = (x, m) from hr1] at hR1
      have hR2 := fun W => impl_rv (s.extract (p + m) s.size) W (by unfold maxLen; rw [ByteArray.size_extract]; omega)
      rw [drop_ext, show rv (s.data.toList.drop (p + m)) = (y, n) from hr2] at hR2
      simp only at hR1 hR2
      have HR : Hid (rdl s a (k + 1) = rdl s a k ++ [⟨x, y⟩]) := by show _ = _; rw [rdl, HP.out]; unfold pairAt; rw [hr1]; simp only; rw [hr2]
      have HX : Hid (atJ s a (k + 1) = p + m + n) := by show nxt s (atJ s a k) = _; rw [HP.out]; unfold nxt; rw [hr1]; simp only; rw [hr2]
      have hpz : (p : Int) ≤ (s.size : Int) := by omega
      have hpm : p + m ≤ s.size := by omega
      have hpmz : (p : Int) + (m : Int) ≤ (s.size : Int) := by omega
      have hpmn : p + m + n ≤ s.size := by omega
      have hrl : (rdl s a k).length ≤ 7 := by rw [rdl_length]; omega
      have hsz : w1.heap.size ≤ wr.heap.size := hb.size
      have hm7 : m ≤ 7 := hb1.2.2.2.2
      have hn7 : n ≤ 7 := hb2.2.2.2.2
      have HO4 : Hid (OwnV (wr.alloc (.cells #[.int .i64 x, .int .i64 y] 39)) w1.heap.size q (rdl s a k)) := World.ownsRow.alloc HO.out _
      have HC : Hid (_) := one_val wr ⟨x, y⟩ wr.heap.size rfl
      clear hr1 hr2 hb1 hb2
      go_wp2_with fail
      refine (hR1 _).mono ?_
      rintro e w2 ⟨rfl, rfl⟩
      go_wp2_with fail
      refine (hR2 _).mono ?_
      rintro e w3 ⟨rfl, rfl⟩
      go_wp2_with (at_builtin; refine wpList_append_own _ rfl _ _ 24 rfl w1.heap.size 39 i0 (.agg #[.int .i64 0, .int .i64 0]) 2 16 Tryd.underlying24 hinf hz0 hz1 hz2 rfl (by decide) _ _ _ rfl HO4.out ⟨w3.heap.size, 0, none⟩ 1 1 (vals [⟨x, y⟩]) rfl rfl HC.out (vals_one _) (by unfold maxLen; omega) (by omega) (by simp; omega) ?_)
      intro v' w4 hown' hgrow _
      have HO5 : Hid (OwnV w4 w1.heap.size v' (rdl s a (k + 1))) := by show OwnV _ _ _ _; rw [HR.out]; exact own_snocV hown'
      have hb5 := (hb.alloc hb.size (.cells #[.int .i64 x, .int .i64 y] 39)).grown hgrow (by simp; omega) (fun j hj => (HO.out.lt j hj).1)
      clear hgrow hown' HC HO4 HO hR1 hR2
      go_wp2
      go_roundw
      case rel =>
        have R : ∃ (k' : Nat) (q : Value), k' ≤ cn ∧ Value.int .i64 ((k : Int) + 1) = .int .i64 k' ∧ q = v' ∧ Value.int .i64 ((p : Int) + ((m : Int) + (n : Int))) = .int .i64 (atJ s a k' : Nat) ∧ Hid (OwnV w4 w1.heap.size q (rdl s a k')) ∧ Below w1.heap.size w1 w4 := ⟨k + 1, _, by omega, by go_num, rfl, by rw [HX.out]; congr 1; omega, HO5, hb5⟩
        first | exact R | ((repeat apply Exists.intro); exact ⟨R, rfl⟩)
      case measure => simp [intOf]; omega
    · have hltz : ¬ (k : Int) < (cn : Int) := by omega
      have hkc : k = cn := by omega
      subst hkc
      obtain ⟨a3, cap3, rfl, hvo, hcl, hcm⟩ := OwnV.o HO.out
      have hrl : (rdl s a k).length = k := rdl_length s a k
      have kS := impl_show a3 (rdl s a k) cap3 wr hvo (by omega)
      rcases hd : decide (showV (rdl s a k) = s) with _ | _
      · have HE : Hid (readV s = ([], false)) := by show _ = _; rw [HEQ.out, hd]; rfl
        have hne : ¬ showV (rdl s a k) = s := of_decide_eq_false hd
        have hbq : ((showV (rdl s a k)).toList == s.toList) = false := by
          rw [← Bool.not_eq_true, beq_iff_eq]
          intro e
          exact hne (toList_inj e)
        clear hd hvo hrl HEQ hne
        go_wp2_with fail
        refine kS.mono ?_
        rintro e w6 ⟨rfl, hb6⟩
        have hb7 := hb.trans (hb6.mono hb.size)
        go_wp2
        go_ret2
        rw [HE.out]
        exact ⟨_, rfl, OwnV.nil _ _, hb7⟩
      · have HE : Hid (readV s = (rdl s a k, true)) := by show _ = _; rw [HEQ.out, hd]; rfl
        have he : showV (rdl s a k) = s := of_decide_eq_true hd
        rw [he] at kS
        have hbq : (s.toList == s.toList) = true := by simp
        clear hd hvo hrl HEQ he
        go_wp2_with fail
        refine kS.mono ?_
        rintro e w6 ⟨rfl, hb6⟩
        have hb7 := hb.trans (hb6.mono hb.size)
        have HO6 : Hid (_) := own_keep HO.out hb6
        go_wp2
        go_ret2
        rw [HE.out]
        exact ⟨_, rfl, HO6.out, hb7⟩
end Go.Proofs.YtaeokecodejpdaaDoor
