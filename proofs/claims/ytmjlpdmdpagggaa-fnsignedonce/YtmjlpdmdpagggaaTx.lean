/- What spec.l1Text and l1New answer, as functions of the code's bytes and the cursor's state. -/
import Derived.Test.YtmjlpdmdpagggaaCur4
import Derived.Test.YtmjlpdmdpagggaaLaw
import Derived.Test.YtmjlpdmdpagggaaPb
import Derived.Outline
namespace Go.Proofs.Ytmjlpdmdpagggaa
open Go.RowKit
open Num
set_option linter.unusedVariables false
def styl (st b : Int) : Int := if st = 1 then b % 2 else if st = 2 then 97 + b % 4 else b
theorem styl_bound (st b : Int) (h0 : 0 ≤ b) (h1 : b < 256) : 0 ≤ styl st b ∧ styl st b < 256 := by
  unfold styl; split
  · omega
  · split <;> omega
def textGo (L : List UInt8) (st : Int) : Nat → St → List UInt8 × St
  | 0, s => ([], s)
  | k + 1, s => (UInt8.ofNat (styl st (byteV L s)).toNat :: (textGo L st k (byteN L s)).1, (textGo L st k (byteN L s)).2)
theorem length_textGo (L : List UInt8) (st : Int) : ∀ k s, (textGo L st k s).1.length = k
  | 0, _ => rfl
  | k + 1, s => by simp [textGo, length_textGo L st k]
/-- What l1Text tells, and the state behind it. -/
def textP (L : List UInt8) (s : St) (most : Int) : List UInt8 × St :=
  textGo L (belowV L s 4) (belowV L (belowN L s 4) (most + 1)).toNat (belowN L (belowN L s 4) (most + 1))
theorem length_textP (L : List UInt8) (s : St) (most : Int) (h : 0 ≤ most) : ((textP L s most).1.length : Int) ≤ most := by
  have := belowV_bound L (belowN L s 4) (most + 1) (by omega)
  unfold textP; rw [length_textGo]; omega
set_option maxHeartbeats 800000 in
theorem text_any (g : Nat) (a : Option Addr) (L : List UInt8) (cap : Nat) (s : St) (most : Int) (w : World) (hc : CurAt w g a L.length cap s) (hl : CodeAt w g a L) (hlen : L.length ≤ 1048576) (hm0 : 0 ≤ most) (hm1 : most ≤ 1000) :
    Calls Try.prog 71 #[.pointer (some ⟨g, 0, none⟩), .int .i64 most] w fun e w' => e = .returned (.string ⟨(textP L s most).1.toArray⟩) ∧ CurAt w' g a L.length cap (textP L s most).2 ∧ w.grownBy w' (some g) := by
  have hsz : g < w.heap.size := (Array.getElem?_eq_some_iff.1 hc).1
  have hbn := belowV_bound L (belowN L s 4) (most + 1) (by omega)
  obtain ⟨P, hP⟩ : ∃ P, textP L s most = P := ⟨_, rfl⟩
  have HP : Hid (textGo L (belowV L s 4) (belowV L (belowN L s 4) (most + 1)).toNat (belowN L (belowN L s 4) (most + 1)) = P) := hP
  rw [hP]
  clear hP
  obtain ⟨st, hst⟩ : ∃ st, belowV L s 4 = st := ⟨_, rfl⟩
  obtain ⟨n, hn⟩ : ∃ n : Nat, belowV L (belowN L s 4) (most + 1) = (n : Int) := ⟨(belowV L (belowN L s 4) (most + 1)).toNat, by omega⟩
  rw [hst, hn] at HP
  rw [hn] at hbn
  have HST : Hid (_ = _) := hst
  have HNN : Hid (_ = _) := hn
  have hn1 : n ≤ 1000 := by omega
  have HC : Hid (CurAt (w.alloc (.cells #[] 5)) g a L.length cap s) := show (w.alloc _).heap[g]? = _ by
    rw [Below.heap_alloc _ _ _ hsz]; exact hc
  have HL : Hid (CodeAt (w.alloc (.cells #[] 5)) g a L) := CodeAt.kept hl (grown_alloc (grown_refl _ _) _)
  have hown0 := own_empty w
  obtain ⟨i0, hi, hz0, hz1, hz2⟩ := info5f
  have hg0 : w.grownBy (w.alloc (.cells #[] 5)) (some g) := grown_alloc (grown_refl _ _) _
  have HL0 : Hid (CodeAt w g a L) := hl
  clear hst hn hc hl hbn
  go_enter Try.func71, Try.ntmps71
  go_wp2_with fail
  refine (below_any g a L cap s 4 _ HC.out HL.out hlen).mono ?_
  rintro e w1 ⟨rfl, hc1, hg1⟩
  rw [HST.out]
  have HC1 : Hid (CurAt w1 g a L.length cap (belowN L s 4)) := hc1
  have HL1 : Hid (CodeAt w1 g a L) := CodeAt.kept HL.out hg1
  have hown1 := hown0.kept hg1 (Or.inr (by simp [Value.ownBlock]; omega))
  have hgw1 := grown_trans hg0 hg1
  clear hc1 hg1 hown0 hg0 HC HL
  go_wp2_with fail
  refine (below_any g a L cap _ (most + 1) _ HC1.out HL1.out hlen).mono ?_
  rintro e w2 ⟨rfl, hc2, hg2⟩
  rw [HNN.out]
  have HC2 : Hid (CurAt w2 g a L.length cap (belowN L (belowN L s 4) (most + 1))) := hc2
  have HL2 : Hid (CodeAt w2 g a L) := CodeAt.kept HL1.out hg2
  have hown2 := hown1.kept hg2 (Or.inr (by simp [Value.ownBlock]; omega))
  have hgw2 := grown_trans hgw1 hg2
  clear hc2 hg2 hown1 hgw1 HC1 HL1
  generalize belowN L (belowN L s 4) (most + 1) = s2 at HC2 HP
  go_wp2
  go_loopw [5, 7] (fun out i wr => ∃ (k j : Nat) (cs : List UInt8) (s' : St), k ≤ 1000 ∧ j ≤ 1000 ∧ k + j ≤ 1000 ∧ i = .int .i64 k ∧ wr.ownsRow w.heap.size 5 1 out j (cs.map u8v) ∧ Hid ((cs ++ (textGo L st k s').1, (textGo L st k s').2) = P) ∧ Hid (CurAt wr g a L.length cap s') ∧ Hid (CodeAt wr g a L) ∧ w.grownBy wr (some g)) (fun _ i _ => (intOf i).toNat)
  case atStart => exact ⟨n, 0, [], s2, by omega, by omega, by omega, rfl, hown2, HP, HC2, HL2, hgw2⟩
  case round =>
    clear hown2 HP HC2 HL2 hgw2 HST HNN
    obtain ⟨k, j, cs, s', hk, hj, hkj, rfl, hown, HP, HC, HL, hgw⟩ := hrel
    have hsr : w.heap.size ≤ wr.heap.size := hgw.size
    cases k with
    | zero =>
      have hcv := run_str_own (P := Try.prog) wr 22 9 5 Try.underlying22 Try.underlying5 Try.underlying9 _ _ _ _ hown
      go_wp2
      go_ret
      exact ⟨ret_str (by rw [← HP.out]; simp [textGo]), by rw [← HP.out]; exact HC.out, hgw⟩
    | succ k =>
      have hb := byteV_bound L s'
      have hsb := styl_bound st (byteV L s') hb.1 hb.2
      have HSB : Hid (_ ∧ _) := hsb
      have hpos : (0 : Int) < ((k + 1 : Nat) : Int) := by omega
      go_wp2_with fail
      refine (byte_any g a L cap s' _ HC.out HL.out hlen).mono ?_
      rintro e w1 ⟨rfl, hc1, hg1⟩
      have HC1 : Hid (CurAt w1 g a L.length cap (byteN L s')) := hc1
      have HL1 : Hid (CodeAt w1 g a L) := CodeAt.kept HL.out hg1
      have hne : u5.ownBlock ≠ some g := fun e => by have := (hown.lt g e).1; omega
      have hown1 := hown.kept hg1 (Or.inr hne)
      have hgw1 := grown_trans hgw hg1
      have hs1 : w.heap.size ≤ w1.heap.size := hgw1.size
      clear hc1 hg1 HC HL hgw
      by_cases h1 : st = 1
      · have HE : styl st (byteV L s') = byteV L s' % 2 := by unfold styl; rw [if_pos h1]
        have HPN : Hid ((cs ++ [UInt8.ofNat (byteV L s' % 2).toNat] ++ (textGo L st k (byteN L s')).1, (textGo L st k (byteN L s')).2) = P) := by
          show _ = _
          rw [← HP.out, List.append_assoc]
          simp only [textGo, HE]
          rfl
        clear HE
        have hq1 : (st == 1) = true := by rw [h1]; rfl
        have hq2 : (st == 2) = false := by rw [h1]; rfl
        clear h1
        have hx0 : 0 ≤ byteV L s' % 2 := by omega
        have hx1 : byteV L s' % 2 < 256 := by omega
        have HCC : Hid (_) := one_cell w1 _ hx0 hx1
        go_wp2_with (at_builtin; refine wpList_append_own _ rfl _ _ 22 rfl w.heap.size 5 i0 (.int .u8 0) 1 1 Try.underlying22 hi hz0 hz1 hz2 rfl (by decide) _ _ _ rfl (hown1.alloc _) ⟨w1.heap.size, 0, none⟩ 1 1 ([UInt8.ofNat (byteV L s' % 2).toNat].map u8v) rfl rfl HCC (u8v_one _) (by unfold maxLen; omega) (by omega) (by simp; omega) ?_)
        intro v' w2 hown' hgrow _
        replace hown' := own_snoc hown'
        have hg2 := grown_alloc (grown_refl w1 (some g)) (.cells #[.int .u8 (byteV L s' % 2)] 5)
        have HC2 : Hid (CurAt w2 g a L.length cap (byteN L s')) := cur_kept (cur_kept HC1.out (grown_alloc (grown_refl w1 none) _) (by simp)) hgrow hne
        have hgw2 := grown_fresh (grown_trans hgw1 hg2) hgrow (fun j hj => (hown.lt j hj).1)
        have HL2 : Hid (CodeAt w2 g a L) := CodeAt.kept HL0.out hgw2
        have HP2 : Hid (_ = P) := HPN.out
        clear hgrow hg2 hgw1 HC1 HL1 hown1 HCC
        go_wp2
        go_roundw
        case rel =>
          have R : ∃ (k' j' : Nat) (cs' : List UInt8) (s'' : St), k' ≤ 1000 ∧ j' ≤ 1000 ∧ k' + j' ≤ 1000 ∧ Value.int .i64 (k : Int) = .int .i64 (k' : Int) ∧ w2.ownsRow w.heap.size 5 1 v' j' (cs'.map u8v) ∧ Hid ((cs' ++ (textGo L st k' s'').1, (textGo L st k' s'').2) = P) ∧ Hid (CurAt w2 g a L.length cap s'') ∧ Hid (CodeAt w2 g a L) ∧ w.grownBy w2 (some g) :=
            ⟨k, j + 1, _, byteN L s', by omega, by omega, by omega, rfl, hown', HP2, HC2, HL2, hgw2⟩
          first | exact R | ((repeat apply Exists.intro); exact ⟨R, rfl⟩)
        case measure => simp [intOf]
      · by_cases h2 : st = 2
        · have HE : styl st (byteV L s') = 97 + byteV L s' % 4 := by unfold styl; rw [if_neg h1, if_pos h2]
          have HPN : Hid ((cs ++ [UInt8.ofNat (97 + byteV L s' % 4).toNat] ++ (textGo L st k (byteN L s')).1, (textGo L st k (byteN L s')).2) = P) := by
            show _ = _
            rw [← HP.out, List.append_assoc]
            simp only [textGo, HE]
            rfl
          clear HE
          have hq1 : (st == 1) = false := by rw [h2]; rfl
          have hq2 : (st == 2) = true := by rw [h2]; rfl
          clear h1 h2
          have hx0 : 0 ≤ 97 + byteV L s' % 4 := by omega
          have hx1 : 97 + byteV L s' % 4 < 256 := by omega
          have HCC : Hid (_) := one_cell w1 _ hx0 hx1
          go_wp2_with (at_builtin; refine wpList_append_own _ rfl _ _ 22 rfl w.heap.size 5 i0 (.int .u8 0) 1 1 Try.underlying22 hi hz0 hz1 hz2 rfl (by decide) _ _ _ rfl (hown1.alloc _) ⟨w1.heap.size, 0, none⟩ 1 1 ([UInt8.ofNat (97 + byteV L s' % 4).toNat].map u8v) rfl rfl HCC (u8v_one _) (by unfold maxLen; omega) (by omega) (by simp; omega) ?_)
          intro v' w2 hown' hgrow _
          replace hown' := own_snoc hown'
          have hg2 := grown_alloc (grown_refl w1 (some g)) (.cells #[.int .u8 (97 + byteV L s' % 4)] 5)
          have HC2 : Hid (CurAt w2 g a L.length cap (byteN L s')) := cur_kept (cur_kept HC1.out (grown_alloc (grown_refl w1 none) _) (by simp)) hgrow hne
          have hgw2 := grown_fresh (grown_trans hgw1 hg2) hgrow (fun j hj => (hown.lt j hj).1)
          have HL2 : Hid (CodeAt w2 g a L) := CodeAt.kept HL0.out hgw2
          have HP2 : Hid (_ = P) := HPN.out
          clear hgrow hg2 hgw1 HC1 HL1 hown1 HCC
          go_wp2
          go_roundw
          case rel =>
            have R : ∃ (k' j' : Nat) (cs' : List UInt8) (s'' : St), k' ≤ 1000 ∧ j' ≤ 1000 ∧ k' + j' ≤ 1000 ∧ Value.int .i64 (k : Int) = .int .i64 (k' : Int) ∧ w2.ownsRow w.heap.size 5 1 v' j' (cs'.map u8v) ∧ Hid ((cs' ++ (textGo L st k' s'').1, (textGo L st k' s'').2) = P) ∧ Hid (CurAt w2 g a L.length cap s'') ∧ Hid (CodeAt w2 g a L) ∧ w.grownBy w2 (some g) :=
              ⟨k, j + 1, _, byteN L s', by omega, by omega, by omega, rfl, hown', HP2, HC2, HL2, hgw2⟩
            first | exact R | ((repeat apply Exists.intro); exact ⟨R, rfl⟩)
          case measure => simp [intOf]
        · have HE : styl st (byteV L s') = byteV L s' := by unfold styl; rw [if_neg h1, if_neg h2]
          have HPN : Hid ((cs ++ [UInt8.ofNat (byteV L s').toNat] ++ (textGo L st k (byteN L s')).1, (textGo L st k (byteN L s')).2) = P) := by
            show _ = _
            rw [← HP.out, List.append_assoc]
            simp only [textGo, HE]
            rfl
          clear HE
          have hq1 : (st == 1) = false := by simpa using h1
          have hq2 : (st == 2) = false := by simpa using h2
          clear h1 h2
          have hx0 : 0 ≤ byteV L s' := by omega
          have hx1 : byteV L s' < 256 := by omega
          have HCC : Hid (_) := one_cell w1 _ hx0 hx1
          go_wp2_with (at_builtin; refine wpList_append_own _ rfl _ _ 22 rfl w.heap.size 5 i0 (.int .u8 0) 1 1 Try.underlying22 hi hz0 hz1 hz2 rfl (by decide) _ _ _ rfl (hown1.alloc _) ⟨w1.heap.size, 0, none⟩ 1 1 ([UInt8.ofNat (byteV L s').toNat].map u8v) rfl rfl HCC (u8v_one _) (by unfold maxLen; omega) (by omega) (by simp; omega) ?_)
          intro v' w2 hown' hgrow _
          replace hown' := own_snoc hown'
          have hg2 := grown_alloc (grown_refl w1 (some g)) (.cells #[.int .u8 (byteV L s')] 5)
          have HC2 : Hid (CurAt w2 g a L.length cap (byteN L s')) := cur_kept (cur_kept HC1.out (grown_alloc (grown_refl w1 none) _) (by simp)) hgrow hne
          have hgw2 := grown_fresh (grown_trans hgw1 hg2) hgrow (fun j hj => (hown.lt j hj).1)
          have HL2 : Hid (CodeAt w2 g a L) := CodeAt.kept HL0.out hgw2
          have HP2 : Hid (_ = P) := HPN.out
          clear hgrow hg2 hgw1 HC1 HL1 hown1 HCC
          go_wp2
          go_roundw
          case rel =>
            have R : ∃ (k' j' : Nat) (cs' : List UInt8) (s'' : St), k' ≤ 1000 ∧ j' ≤ 1000 ∧ k' + j' ≤ 1000 ∧ Value.int .i64 (k : Int) = .int .i64 (k' : Int) ∧ w2.ownsRow w.heap.size 5 1 v' j' (cs'.map u8v) ∧ Hid ((cs' ++ (textGo L st k' s'').1, (textGo L st k' s'').2) = P) ∧ Hid (CurAt w2 g a L.length cap s'') ∧ Hid (CodeAt w2 g a L) ∧ w.grownBy w2 (some g) :=
              ⟨k, j + 1, _, byteN L s', by omega, by omega, by omega, rfl, hown', HP2, HC2, HL2, hgw2⟩
            first | exact R | ((repeat apply Exists.intro); exact ⟨R, rfl⟩)
          case measure => simp [intOf]
end Go.Proofs.Ytmjlpdmdpagggaa
