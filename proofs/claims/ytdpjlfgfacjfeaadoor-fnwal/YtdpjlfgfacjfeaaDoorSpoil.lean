/- What spec.l1Spoil answers, as a function of the code's bytes, the cursor's state and the text. -/
import Derived.Test.YtdpjlfgfacjfeaaDoorTx
import Derived.Deep.RegionWith
namespace Go.Proofs.YtdpjlfgfacjfeaaDoor
open Go.RowKit
open Num
set_option linter.unusedVariables false
theorem u8_byteV (L : List UInt8) (s : St) : byteV L s % 256 = byteV L s := by
  have := byteV_bound L s
  omega
theorem u8_mod (z : Int) : IntKind.u8.wrap z = z % 256 := by
  simp [IntKind.wrap, IntKind.signed, IntKind.bits]
theorem u8_range (z : Int) : 0 ≤ z % 256 ∧ z % 256 < 256 := by omega
theorem byte_i64' (c : UInt8) : IntKind.i64.wrap (c.toNat : Int) = (c.toNat : Int) := by
  have := c.toNat_lt
  rw [IntKind.wrap_i64]; omega
def xb (c y : Int) : Int := bits BinOp.xor IntKind.i64 c (1 + y) % 256
/-- What l1Spoil tells of a text that is not empty, and the state behind it. -/
def spoilP (L : List UInt8) (s : St) (t : ByteArray) : ByteArray × St :=
  if belowV L (belowN L s t.size) 4 = 0 then (t.extract 0 (belowV L s t.size).toNat ++ t.extract ((belowV L s t.size).toNat + 1) t.size, belowN L (belowN L s t.size) 4)
  else if belowV L (belowN L s t.size) 4 = 1 then (t.extract 0 (belowV L s t.size).toNat ++ ⟨#[UInt8.ofNat (byteV L (belowN L (belowN L s t.size) 4)).toNat]⟩ ++ t.extract (belowV L s t.size).toNat t.size, byteN L (belowN L (belowN L s t.size) 4))
  else if belowV L (belowN L s t.size) 4 = 2 then (t.extract 0 (belowV L s t.size).toNat, belowN L (belowN L s t.size) 4)
  else (t.extract 0 (belowV L s t.size).toNat ++ ⟨#[UInt8.ofNat (xb ((t.data.toList.getD (belowV L s t.size).toNat 0).toNat : Int) (belowV L (belowN L (belowN L s t.size) 4) 255)).toNat]⟩ ++ t.extract ((belowV L s t.size).toNat + 1) t.size, belowN L (belowN L (belowN L s t.size) 4) 255)
theorem getD_byte (t : ByteArray) (k : Nat) (h : k < t.size) : t.data.toList.getD k 0 = t[k] := by
  have hl : k < t.data.toList.length := by rw [Array.length_toList]; exact h
  rw [List.getD_eq_getElem?_getD, List.getElem?_eq_getElem hl]; rfl
section
attribute [local go_sem] u8_byteV byte_i64' u8_mod
set_option maxHeartbeats 1600000 in
set_option maxRecDepth 100000 in
theorem spoil_any (g : Nat) (a : Option Addr) (L : List UInt8) (cap : Nat) (s : St) (t : ByteArray) (w : World) (hc : CurAt w g a L.length cap s) (hl : CodeAt w g a L) (hlen : L.length ≤ 1048576) (ht0 : 0 < t.size) (ht : t.size ≤ 1000) :
    Calls Tryd.prog 38 #[.pointer (some ⟨g, 0, none⟩), .string t] w fun e w' => e = .returned (.string (spoilP L s t).1) ∧ CurAt w' g a L.length cap (spoilP L s t).2 ∧ w.grownBy w' (some g) := by
  have HC : Hid (CurAt w g a L.length cap s) := hc
  have HL : Hid (CodeAt w g a L) := hl
  clear hc hl
  have hq : ((t.size : Int) == 0) = false := by rw [beq_eq_false_iff_ne]; omega
  have hb := belowV_bound L s t.size (by omega)
  obtain ⟨k, hk⟩ : ∃ k : Nat, belowV L s t.size = (k : Int) := ⟨(belowV L s t.size).toNat, by omega⟩
  rw [hk] at hb
  have HK : Hid (_ = _) := hk
  have hkt : (k : Int) < (t.size : Int) := by omega
  have hkt1 : (k : Int) + 1 ≤ (t.size : Int) := by omega
  have hkt2 : (k : Int) ≤ (t.size : Int) := by omega
  have hktn : k < t.size := by omega
  have hk0 : (0 : Int) ≤ (k : Int) := by omega
  have hk01 : (0 : Int) ≤ (k : Int) + 1 := by omega
  obtain ⟨m, hm⟩ : ∃ m, belowV L (belowN L s t.size) 4 = m := ⟨_, rfl⟩
  have HM : Hid (_ = _) := hm
  unfold spoilP
  rw [hk, hm, Int.toNat_natCast]
  clear hk hm
  have hw1 : IntKind.i64.wrap ((k : Int) + 1) = (k : Int) + 1 := by rw [IntKind.wrap_i64]; omega
  rcases (show m = 0 ∨ m = 1 ∨ m = 2 ∨ (m ≠ 0 ∧ m ≠ 1 ∧ m ≠ 2) from by omega) with h | h | h | ⟨h, h', h''⟩
  · have hq0 : (m == 0) = true := by rw [h]; rfl
    rw [if_pos h]
    clear h
    go_enter Tryd.func38, Tryd.ntmps38
    go_wp2_with fail
    refine (below_any g a L cap s t.size _ HC.out HL.out hlen).mono ?_
    rintro e w1 ⟨rfl, hc1, hg1⟩
    rw [HK.out]
    have HC1 : Hid (CurAt w1 g a L.length cap (belowN L s t.size)) := hc1
    have HL1 : Hid (CodeAt w1 g a L) := CodeAt.kept HL.out hg1
    clear hc1
    go_wp2_with fail
    refine (below_any g a L cap _ 4 _ HC1.out HL1.out hlen).mono ?_
    rintro e w2 ⟨rfl, hc2, hg2⟩
    rw [HM.out]
    have HC2 : Hid (CurAt w2 g a L.length cap (belowN L (belowN L s t.size) 4)) := hc2
    have HL2 : Hid (CodeAt w2 g a L) := CodeAt.kept HL1.out hg2
    clear hc2
    go_wp2
    go_quiet (fail)
    go_wp2
    go_ret
    exact ⟨rfl, HC2.out, grown_drewN (grown_trans hg1 hg2) _⟩
  · have hq0 : (m == 0) = false := by rw [h]; rfl
    have hq1 : (m == 1) = true := by rw [h]; rfl
    rw [if_neg (by omega), if_pos h]
    clear h
    go_enter Tryd.func38, Tryd.ntmps38
    go_wp2_with fail
    refine (below_any g a L cap s t.size _ HC.out HL.out hlen).mono ?_
    rintro e w1 ⟨rfl, hc1, hg1⟩
    rw [HK.out]
    have HC1 : Hid (CurAt w1 g a L.length cap (belowN L s t.size)) := hc1
    have HL1 : Hid (CodeAt w1 g a L) := CodeAt.kept HL.out hg1
    clear hc1
    go_wp2_with fail
    refine (below_any g a L cap _ 4 _ HC1.out HL1.out hlen).mono ?_
    rintro e w2 ⟨rfl, hc2, hg2⟩
    rw [HM.out]
    have HC2 : Hid (CurAt w2 g a L.length cap (belowN L (belowN L s t.size) 4)) := hc2
    have HL2 : Hid (CodeAt w2 g a L) := CodeAt.kept HL1.out hg2
    clear hc2
    have hbb := byteV_bound L (belowN L (belowN L s t.size) 4)
    have hcv := fun wx => run_str_one (P := Tryd.prog) wx 22 9 5 Tryd.underlying22 Tryd.underlying5 Tryd.underlying9 (byteV L (belowN L (belowN L s t.size) 4)) hbb.1 hbb.2
    go_wp2
    go_region_with ((go_at_call 49; refine (byte_any g a L cap (belowN L (belowN L s t.size) 4) _ ?_ ?_ hlen).mono ?_; (exact HC2.out); (exact HL2.out); (rintro e w3 ⟨rfl, hc3, hg3⟩)))
    have HC3 : Hid (CurAt w3 g a L.length cap (byteN L (belowN L (belowN L s t.size) 4))) := hc3
    have hsz3 : g < w3.heap.size := (Array.getElem?_eq_some_iff.1 hc3).1
    clear hc3
    go_wp2
    go_ret
    exact ⟨rfl, cur_kept HC3.out (grown_alloc (grown_refl w3 none) _) (by simp), grown_alloc (grown_trans (grown_drew (grown_trans hg1 hg2)) hg3) _⟩
  · have hq0 : (m == 0) = false := by rw [h]; rfl
    have hq1 : (m == 1) = false := by rw [h]; rfl
    have hq2 : (m == 2) = true := by rw [h]; rfl
    rw [if_neg (by omega), if_neg (by omega), if_pos h]
    clear h
    go_enter Tryd.func38, Tryd.ntmps38
    go_wp2_with fail
    refine (below_any g a L cap s t.size _ HC.out HL.out hlen).mono ?_
    rintro e w1 ⟨rfl, hc1, hg1⟩
    rw [HK.out]
    have HC1 : Hid (CurAt w1 g a L.length cap (belowN L s t.size)) := hc1
    have HL1 : Hid (CodeAt w1 g a L) := CodeAt.kept HL.out hg1
    clear hc1
    go_wp2_with fail
    refine (below_any g a L cap _ 4 _ HC1.out HL1.out hlen).mono ?_
    rintro e w2 ⟨rfl, hc2, hg2⟩
    rw [HM.out]
    have HC2 : Hid (CurAt w2 g a L.length cap (belowN L (belowN L s t.size) 4)) := hc2
    have HL2 : Hid (CodeAt w2 g a L) := CodeAt.kept HL1.out hg2
    clear hc2
    go_wp2
    go_ret
    exact ⟨rfl, HC2.out, grown_trans hg1 hg2⟩
  · have hq0 : (m == 0) = false := by simpa using h
    have hq1 : (m == 1) = false := by simpa using h'
    have hq2 : (m == 2) = false := by simpa using h''
    rw [if_neg h, if_neg h', if_neg h'', getD_byte t k hktn]
    clear h h' h''
    have hy := belowV_bound L (belowN L (belowN L s t.size) 4) 255 (by omega)
    obtain ⟨y, hyy⟩ : ∃ y, belowV L (belowN L (belowN L s t.size) 4) 255 = y := ⟨_, rfl⟩
    rw [hyy] at hy ⊢
    have HY : Hid (_ = _) := hyy
    clear hyy
    have hwy : IntKind.i64.wrap (1 + y) = 1 + y := by rw [IntKind.wrap_i64]; omega
    have hxr := u8_range (bits BinOp.xor IntKind.i64 (t[k].toNat : Int) (1 + y))
    unfold xb
    have HXR : Hid (_ ∧ _) := hxr
    go_enter Tryd.func38, Tryd.ntmps38
    go_wp2_with fail
    refine (below_any g a L cap s t.size _ HC.out HL.out hlen).mono ?_
    rintro e w1 ⟨rfl, hc1, hg1⟩
    rw [HK.out]
    have HC1 : Hid (CurAt w1 g a L.length cap (belowN L s t.size)) := hc1
    have HL1 : Hid (CodeAt w1 g a L) := CodeAt.kept HL.out hg1
    clear hc1
    go_wp2_with fail
    refine (below_any g a L cap _ 4 _ HC1.out HL1.out hlen).mono ?_
    rintro e w2 ⟨rfl, hc2, hg2⟩
    rw [HM.out]
    have HC2 : Hid (CurAt w2 g a L.length cap (belowN L (belowN L s t.size) 4)) := hc2
    have HL2 : Hid (CodeAt w2 g a L) := CodeAt.kept HL1.out hg2
    clear hc2
    have hcv := fun wx => run_str_one (P := Tryd.prog) wx 22 9 5 Tryd.underlying22 Tryd.underlying5 Tryd.underlying9 _ hxr.1 hxr.2
    go_wp2
    go_region_with ((go_at_call 37; refine (below_any g a L cap (belowN L (belowN L s t.size) 4) 255 _ ?_ ?_ hlen).mono ?_; (exact HC2.out); (exact HL2.out); (rintro e w3 ⟨rfl, hc3, hg3⟩); (rw [HY.out])))
    all_goals
      have HC3 : Hid (CurAt w3 g a L.length cap (belowN L (belowN L (belowN L s t.size) 4) 255)) := hc3
      have hsz3 : g < w3.heap.size := (Array.getElem?_eq_some_iff.1 hc3).1
      clear hc3
      go_wp2
      go_ret
      exact ⟨rfl, cur_kept HC3.out (grown_alloc (grown_refl w3 none) _) (by simp), grown_alloc (grown_trans (grown_drew (grown_trans hg1 hg2)) hg3) _⟩
end
end Go.Proofs.YtdpjlfgfacjfeaaDoor
