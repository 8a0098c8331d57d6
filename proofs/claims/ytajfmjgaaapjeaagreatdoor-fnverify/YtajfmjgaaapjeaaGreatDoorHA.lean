/- The cursor of the draws: what spec.l1New, l1Byte, l1Below .. answer, as functions of the code's bytes and the cursor's state. What spec.l1PickInt, l1Num, l1Text and l1New answer, as functions of the code's bytes and the cursor's state. What spec.l1Text and l1New answer, as functions of the code's bytes and the cursor's state. What spec.l1New answers: a cursor over the code, its mix begun with the code's bytes. What spec.l1Text and l1New answer, as functions of the code's bytes and the cursor's state. Draws, as far as laws ask: whatever is drawn is of some size; old memory stands but for the cursor. Conditions: a code of at most 2 to the 20 bytes. -/
import Derived.Test.YtajfmjgaaapjeaaGreatDoorG4
import Derived.Test.YtajfmjgaaapjeaaGreatDoorG2
import Derived.Deep.QuietTactic
import Derived.BigQuiet
import Derived.Laws.BitsLemmas
import Derived.Outline
import Derived.Deep.RegionHeld3
namespace Go.Proofs.YtajfmjgaaapjeaaGreatDoor
open Go.RowKit
open Num
set_option linter.unusedVariables false
/-- The cursor's state: the place in the code, and the mix. -/
structure St where
  i : Nat
  h : Int
def CurAt (w : World) (g : Nat) (a : Option Addr) (len cap : Nat) (s : St) : Prop :=
  w.heap[g]? = some (.cells #[.slice a len cap, .int .i64 (s.i : Int), .int .i64 s.h] 109 (0, 0))
/-- The code's bytes lie where the slice says, in another block than g. -/
def CodeAt (w : World) (g : Nat) (a : Option Addr) (L : List UInt8) : Prop :=
  ∀ j (hj : j < L.length), ∃ b off, a = some ⟨b, off, none⟩ ∧ b ≠ g ∧ w.cell? ⟨b, off + j, none⟩ = some (.int .u8 (L[j].toNat : Int))
theorem grown_refl (w : World) (r : Option Nat) : w.grownBy w r := ⟨rfl, rfl, rfl, Nat.le_refl _, fun _ _ _ => rfl⟩
theorem grown_trans {a b c : World} {r : Option Nat} (h : a.grownBy b r) (k : b.grownBy c r) : a.grownBy c r :=
  ⟨k.os.trans h.os, k.tape.trans h.tape, k.output.trans h.output, Nat.le_trans h.size k.size, fun i hi hr => (k.block i (Nat.lt_of_lt_of_le hi h.size) hr).trans (h.block i hi hr)⟩
theorem grown_set {a w : World} {g j : Nat} (h : a.grownBy w (some g)) (u : Value) : a.grownBy (w.setCell ⟨g, j, none⟩ u) (some g) :=
  grown_trans h ⟨rfl, rfl, rfl, by simp, fun k _ hk => heap_setCell_other w ⟨g, j, none⟩ k u (fun e => hk (by simp [e]))⟩
theorem grown_drewN {a w : World} {r : Option Nat} (h : a.grownBy w r) (n : Nat) : a.grownBy (w.drewN n) r := grown_trans h ⟨rfl, rfl, rfl, Nat.le_refl _, fun _ _ _ => rfl⟩
theorem grown_drew {a w : World} {r : Option Nat} (h : a.grownBy w r) : a.grownBy w.drew r := grown_trans h ⟨rfl, rfl, rfl, Nat.le_refl _, fun _ _ _ => rfl⟩
theorem grown_alloc {a w : World} {r : Option Nat} (h : a.grownBy w r) (o : Obj) : a.grownBy (w.alloc o) r :=
  grown_trans h ⟨rfl, rfl, rfl, by simp, fun k hk _ => Below.heap_alloc w o k hk⟩
theorem below_grownBy {B g : Nat} {w w' : World} (h : w.grownBy w' (some g)) (hB : B ≤ w.heap.size) (hg : B ≤ g) : Below B w w' :=
  (Below.refl _ _).grown h hB (fun k hk => by cases hk; exact hg)
theorem CodeAt.kept {w w' : World} {g : Nat} {a : Option Addr} {L : List UInt8} (h : CodeAt w g a L) (hg : w.grownBy w' (some g)) : CodeAt w' g a L := by
  intro j hj
  obtain ⟨b, off, ha, hb, hc⟩ := h j hj
  exact ⟨b, off, ha, hb, hg.cell hc (by simpa using hb)⟩
theorem cur_cells {w : World} {g : Nat} {a : Option Addr} {len cap : Nat} {s : St} (hc : CurAt w g a len cap s) :
    w.cell? ⟨g, 0, none⟩ = some (.slice a len cap) ∧ w.cell? ⟨g, 1, none⟩ = some (.int .i64 (s.i : Int)) ∧ w.cell? ⟨g, 2, none⟩ = some (.int .i64 s.h) ∧ w.frozen? ⟨g, 1, none⟩ = false ∧ w.frozen? ⟨g, 2, none⟩ = false :=
  ⟨by rw [cell_of_row w g 0 _ 109 (0, 0) hc]; rfl, by rw [cell_of_row w g 1 _ 109 (0, 0) hc]; rfl, by rw [cell_of_row w g 2 _ 109 (0, 0) hc]; rfl, frozen_of_row w g 1 _ 109 hc, frozen_of_row w g 2 _ 109 hc⟩
theorem cur_set2 {w : World} {g : Nat} {a : Option Addr} {len cap i : Nat} {h : Int} (hc : CurAt w g a len cap ⟨i, h⟩) (m : Int) : CurAt (w.setCell ⟨g, 2, none⟩ (.int .i64 m)) g a len cap ⟨i, m⟩ := by
  unfold CurAt at hc ⊢
  rw [heap_setCell_same w g 2 _ 109 _ hc]; rfl
theorem cur_set1 {w : World} {g : Nat} {a : Option Addr} {len cap i : Nat} {h : Int} (hc : CurAt w g a len cap ⟨i, h⟩) (k : Nat) (x : Int) (hx : x = (k : Int)) : CurAt (w.setCell ⟨g, 1, none⟩ (.int .i64 x)) g a len cap ⟨k, h⟩ := by
  unfold CurAt at hc ⊢
  rw [heap_setCell_same w g 1 _ 109 _ hc, hx]; rfl
theorem i64_and255 (n : Int) : bits .and .i64 n 255 = n % 256 := by
  have h255 : (BitVec.ofInt 64 255).toNat = 2 ^ 8 - 1 := by decide
  have key : (BitVec.ofInt 64 n &&& BitVec.ofInt 64 255).toNat = (n % ((2 ^ 64 : Nat) : Int)).toNat % 2 ^ 8 := by
    rw [BitVec.toNat_and, BitVec.toNat_ofInt, h255, Nat.and_two_pow_sub_one_eq_mod]
  show IntKind.i64.wrap ((BitVec.ofInt 64 n &&& BitVec.ofInt 64 255).toNat : Nat) = n % 256
  rw [key, IntKind.wrap_i64]
  omega
theorem i64_and30 (n : Int) : bits .and .i64 n 1073741823 = n % 1073741824 := by
  have h255 : (BitVec.ofInt 64 1073741823).toNat = 2 ^ 30 - 1 := by decide
  have key : (BitVec.ofInt 64 n &&& BitVec.ofInt 64 1073741823).toNat = (n % ((2 ^ 64 : Nat) : Int)).toNat % 2 ^ 30 := by
    rw [BitVec.toNat_and, BitVec.toNat_ofInt, h255, Nat.and_two_pow_sub_one_eq_mod]
  show IntKind.i64.wrap ((BitVec.ofInt 64 n &&& BitVec.ofInt 64 1073741823).toNat : Nat) = n % 1073741824
  rw [key, IntKind.wrap_i64]
  omega
def mixF (h : Int) : Int := wrap64 (wrap64 (h * 6364136223846793005) + 1442695040888963407)
def xF (m : Int) : Int := bits BinOp.xor IntKind.i64 (m / 8589934592) (m / 35184372088832) % 256
/-- What l1Byte tells, and the state behind it. -/
def byteV (L : List UInt8) (s : St) : Int := if h : s.i < L.length then (xF (mixF s.h) + (L[s.i].toNat : Int)) % 256 else xF (mixF s.h)
def byteN (L : List UInt8) (s : St) : St := ⟨if s.i < L.length then s.i + 1 else s.i, mixF s.h⟩
theorem byteV_bound (L : List UInt8) (s : St) : 0 ≤ byteV L s ∧ byteV L s < 256 := by
  unfold byteV xF; split <;> omega
theorem ret_i64 {a b : Int} (h : a = b) : Ending.returned (.int .i64 a) = .returned (.int .i64 b) := by rw [h]
section
attribute [local go_sem] i64_and255
set_option maxHeartbeats 800000 in
set_option maxRecDepth 100000 in
theorem byte_any (g : Nat) (a : Option Addr) (L : List UInt8) (cap : Nat) (s : St) (w : World) (hc : CurAt w g a L.length cap s) (hl : CodeAt w g a L) (hlen : L.length ≤ 1048576) :
    Calls Tryz.prog 67 #[.pointer (some ⟨g, 0, none⟩)] w fun e w' => e = .returned (.int .i64 (byteV L s)) ∧ CurAt w' g a L.length cap (byteN L s) ∧ w.grownBy w' (some g) := by
  obtain ⟨c0, c1, c2, f1, f2⟩ := cur_cells hc
  obtain ⟨i, h⟩ := s
  simp only [] at c1 c2
  by_cases hi : i < L.length
  · obtain ⟨b, off, rfl, hbg, hcell⟩ := hl i hi
    have hv : byteV L ⟨i, h⟩ = (xF (mixF h) + (L[i].toNat : Int)) % 256 := by unfold byteV; simp only [dif_pos hi]
    have hn : byteN L ⟨i, h⟩ = ⟨i + 1, mixF h⟩ := by unfold byteN; simp only [if_pos hi]
    rw [hv, hn]
    have HC : Hid (_) := hc
    have hx : (L[i].toNat : Int) < 256 := by have := L[i].toNat_lt; omega
    generalize hLi : (L[i].toNat : Int) = x at hx hcell
    have hx0 : 0 ≤ x := by omega
    have hcode : ∀ v, (w.setCell ⟨g, 2, none⟩ v).cell? ⟨b, off + i, none⟩ = some (.int .u8 x) := fun v => by
      rw [World.cell?_of_block (w := w) (heap_setCell_other w ⟨g, 2, none⟩ b v hbg)]; exact hcell
    have hi' : (i : Int) < (L.length : Int) := by omega
    clear hv hn hl hc hLi
    go_enter Tryz.func67, Tryz.ntmps67
    go_wp2
    generalize hm : wrap64 (wrap64 (h * 6364136223846793005) + 1442695040888963407) = m
    have HM : Hid (mixF h = m) := hm
    clear hm
    go_quiet (fail)
    go_wp2
    go_quiet (fail)
    go_wp2
    go_quiet (fail)
    go_wp2
    go_ret
    refine ⟨ret_i64 (by rw [HM.out]; unfold xF; omega), ?_, grown_set (grown_drewN (grown_set (grown_refl _ _) _) _) _⟩
    rw [HM.out]
    exact cur_set1 (w := (w.setCell ⟨g, 2, none⟩ (.int .i64 m)).drewN _) (cur_set2 HC.out m) (i + 1) _ (by omega)
  · have hv : byteV L ⟨i, h⟩ = xF (mixF h) := by unfold byteV; simp only [dif_neg hi]
    have hn : byteN L ⟨i, h⟩ = ⟨i, mixF h⟩ := by unfold byteN; simp only [if_neg hi]
    rw [hv, hn]
    have HC : Hid (_) := hc
    clear hv hn hl hc
    go_enter Tryz.func67, Tryz.ntmps67
    go_wp2
    generalize hm : wrap64 (wrap64 (h * 6364136223846793005) + 1442695040888963407) = m
    have HM : Hid (mixF h = m) := hm
    clear hm
    go_quiet (fail)
    go_wp2
    go_quiet (fail)
    go_wp2
    go_ret
    refine ⟨ret_i64 (by rw [HM.out]; unfold xF; rfl), ?_, grown_drewN (grown_drewN (grown_set (grown_refl _ _) _) _) _⟩
    rw [HM.out]
    exact cur_set2 HC.out m
end
/-- What l1Below tells, and the state behind it. -/
def belowV (L : List UInt8) (s : St) (n : Int) : Int :=
  if n ≤ 0 then 0 else if n ≤ 256 then byteV L s % n
  else (byteV L s * 16777216 + byteV L (byteN L s) * 65536 + byteV L (byteN L (byteN L s)) * 256 + byteV L (byteN L (byteN L (byteN L s)))) % n
def belowN (L : List UInt8) (s : St) (n : Int) : St :=
  if n ≤ 0 then s else if n ≤ 256 then byteN L s else byteN L (byteN L (byteN L (byteN L s)))
theorem belowV_bound (L : List UInt8) (s : St) (n : Int) (h : 0 < n) : 0 ≤ belowV L s n ∧ belowV L s n < n := by
  unfold belowV
  rw [if_neg (by omega)]
  split <;> exact ⟨Int.emod_nonneg _ (by omega), Int.emod_lt_of_pos _ h⟩
set_option maxHeartbeats 800000 in
theorem below_any (g : Nat) (a : Option Addr) (L : List UInt8) (cap : Nat) (s : St) (n : Int) (w : World) (hc : CurAt w g a L.length cap s) (hl : CodeAt w g a L) (hlen : L.length ≤ 1048576) :
    Calls Tryz.prog 34 #[.pointer (some ⟨g, 0, none⟩), .int .i64 n] w fun e w' => e = .returned (.int .i64 (belowV L s n)) ∧ CurAt w' g a L.length cap (belowN L s n) ∧ w.grownBy w' (some g) := by
  have HC : Hid (_) := hc
  have HL : Hid (_) := hl
  clear hc hl
  by_cases h0 : n ≤ 0
  · have hv : belowV L s n = 0 := by unfold belowV; rw [if_pos h0]
    have hn : belowN L s n = s := by unfold belowN; rw [if_pos h0]
    rw [hv, hn]
    clear hv hn
    go_enter Tryz.func34, Tryz.ntmps34
    go_wp2
    go_ret
    exact ⟨rfl, HC.out, grown_refl _ _⟩
  · by_cases h256 : n ≤ 256
    · have hv : belowV L s n = byteV L s % n := by unfold belowV; rw [if_neg h0, if_pos h256]
      have hn : belowN L s n = byteN L s := by unfold belowN; rw [if_neg h0, if_pos h256]
      rw [hv, hn]
      clear hv hn
      have hb := byteV_bound L s
      go_enter Tryz.func34, Tryz.ntmps34
      go_wp2_with fail
      refine (byte_any g a L cap s _ HC.out HL.out hlen).mono ?_
      rintro e w1 ⟨rfl, hc1, hg1⟩
      have HC1 : Hid (_) := hc1
      clear hc1
      go_wp2
      go_ret
      exact ⟨rfl, HC1.out, hg1⟩
    · have hv : belowV L s n = (byteV L s * 16777216 + byteV L (byteN L s) * 65536 + byteV L (byteN L (byteN L s)) * 256 + byteV L (byteN L (byteN L (byteN L s)))) % n := by unfold belowV; rw [if_neg h0, if_neg h256]
      have hn : belowN L s n = byteN L (byteN L (byteN L (byteN L s))) := by unfold belowN; rw [if_neg h0, if_neg h256]
      rw [hv, hn]
      clear hv hn
      have hb0 := byteV_bound L s
      have hb1 := byteV_bound L (byteN L s)
      have hb2 := byteV_bound L (byteN L (byteN L s))
      have hb3 := byteV_bound L (byteN L (byteN L (byteN L s)))
      go_enter Tryz.func34, Tryz.ntmps34
      go_wp2_with fail
      refine (byte_any g a L cap s _ HC.out HL.out hlen).mono ?_
      rintro e w1 ⟨rfl, hc1, hg1⟩
      have HC1 : Hid (_) := hc1
      have HL1 : Hid (_) := CodeAt.kept HL.out hg1
      clear hc1
      go_wp2_with fail
      refine (byte_any g a L cap _ _ HC1.out HL1.out hlen).mono ?_
      rintro e w2 ⟨rfl, hc2, hg2⟩
      have HC2 : Hid (_) := hc2
      have HL2 : Hid (_) := CodeAt.kept HL1.out hg2
      clear hc2
      go_wp2_with fail
      refine (byte_any g a L cap _ _ HC2.out HL2.out hlen).mono ?_
      rintro e w3 ⟨rfl, hc3, hg3⟩
      have HC3 : Hid (_) := hc3
      have HL3 : Hid (_) := CodeAt.kept HL2.out hg3
      clear hc3
      go_wp2_with fail
      refine (byte_any g a L cap _ _ HC3.out HL3.out hlen).mono ?_
      rintro e w4 ⟨rfl, hc4, hg4⟩
      have HC4 : Hid (_) := hc4
      clear hc4
      go_wp2
      go_ret
      exact ⟨rfl, HC4.out, grown_trans hg1 (grown_trans hg2 (grown_trans hg3 hg4))⟩
set_option maxHeartbeats 400000 in
theorem once_any (g : Nat) (a : Option Addr) (L : List UInt8) (cap : Nat) (s : St) (n : Int) (w : World) (hc : CurAt w g a L.length cap s) (hl : CodeAt w g a L) (hlen : L.length ≤ 1048576) :
    Calls Tryz.prog 35 #[.pointer (some ⟨g, 0, none⟩), .int .i64 n] w fun e w' => e = .returned (.bool (belowV L s n == 0)) ∧ CurAt w' g a L.length cap (belowN L s n) ∧ w.grownBy w' (some g) := by
  have HC : Hid (_) := hc
  have HL : Hid (_) := hl
  clear hc hl
  go_enter Tryz.func35, Tryz.ntmps35
  go_wp2_with fail
  refine (below_any g a L cap s n _ HC.out HL.out hlen).mono ?_
  rintro e w1 ⟨rfl, hc1, hg1⟩
  have HC1 : Hid (_) := hc1
  clear hc1
  go_wp2
  go_ret
  exact ⟨rfl, HC1.out, hg1⟩
end Go.Proofs.YtajfmjgaaapjeaaGreatDoor
namespace Go.Proofs.YtajfmjgaaapjeaaGreatDoor
open Go.RowKit
open Num
set_option linter.unusedVariables false
set_option maxHeartbeats 400000 in
theorem pick_any (g gl : Nat) (a : Option Addr) (L : List UInt8) (cap : Nat) (s : St) (zs : List Int) (w : World) (hc : CurAt w g a L.length cap s) (hl : CodeAt w g a L) (hlen : L.length ≤ 1048576)
    (hz : w.heap[gl]? = some (.cells (zs.map (Value.int .i64)).toArray 3 (0, 0))) (hne : gl ≠ g) (h0 : 0 < zs.length) (h1 : zs.length ≤ 256) :
    Calls Tryz.prog 63 #[.pointer (some ⟨g, 0, none⟩), .slice (some ⟨gl, 0, none⟩) zs.length zs.length] w fun e w' => e = .returned (.int .i64 (zs.getD (belowV L s zs.length).toNat 0)) ∧ CurAt w' g a L.length cap (belowN L s zs.length) ∧ w.grownBy w' (some g) := by
  have HC : Hid (_) := hc
  have HL : Hid (_) := hl
  have HZ : Hid (_) := hz
  clear hc hl hz
  have hb := belowV_bound L s zs.length (by omega)
  obtain ⟨k, hk⟩ : ∃ k : Nat, belowV L s zs.length = (k : Int) := ⟨(belowV L s zs.length).toNat, by omega⟩
  have HK : Hid (_ = _) := hk
  have hkl : (k : Int) < (zs.length : Int) := by omega
  have hkl' : k < zs.length := by omega
  rw [hk]
  clear hk hb
  go_enter Tryz.func63, Tryz.ntmps63
  go_wp2_with fail
  refine (below_any g a L cap s _ _ HC.out HL.out hlen).mono ?_
  rintro e w1 ⟨rfl, hc1, hg1⟩
  rw [HK.out]
  have HC1 : Hid (CurAt w1 g a L.length cap (belowN L s zs.length)) := hc1
  have hcell : w1.cell? ⟨gl, k, none⟩ = some (.int .i64 (zs[k])) := by
    refine hg1.cell ?_ (by simpa using hne)
    rw [cell_of_row w gl k _ 3 (0, 0) HZ.out]
    simp [hkl']
  clear hc1
  go_wp2
  go_ret
  exact ⟨ret_i64 (by simp [hkl']), HC1.out, hg1⟩
end Go.Proofs.YtajfmjgaaapjeaaGreatDoor
namespace Go.Proofs.YtajfmjgaaapjeaaGreatDoor
open Go.RowKit
open Num
set_option linter.unusedVariables false
theorem grown_fresh {a b c : World} {g : Nat} {r : Option Nat} (h : a.grownBy b (some g)) (k : b.grownBy c r) (hr : ∀ j, r = some j → a.heap.size ≤ j) : a.grownBy c (some g) :=
  ⟨k.os.trans h.os, k.tape.trans h.tape, k.output.trans h.output, Nat.le_trans h.size k.size, fun i hi hg => (k.block i (Nat.lt_of_lt_of_le hi h.size) (fun e => by have := hr i e.symm; omega)).trans (h.block i hi hg)⟩
theorem cur_kept {b c : World} {g : Nat} {r : Option Nat} {a : Option Addr} {len cap : Nat} {s : St} (h : CurAt b g a len cap s) (k : b.grownBy c r) (hr : r ≠ some g) : CurAt c g a len cap s := by
  unfold CurAt at h ⊢
  rw [k.block g (Array.getElem?_eq_some_iff.1 h).1 (fun e => hr e.symm)]; exact h
end Go.Proofs.YtajfmjgaaapjeaaGreatDoor
namespace Go.Proofs.YtajfmjgaaapjeaaGreatDoor
open Go.RowKit
open Num
set_option linter.unusedVariables false
def newStep (h : Int) (c : UInt8) : Int := (h * 131 + (c.toNat : Int) + 7) % 1073741824
def newF (L : List UInt8) : Int := (L.take 4000).foldl newStep (10101 + (L.length : Int))
theorem new_snoc (L : List UInt8) (h : Int) (j : Nat) (hj : j < L.length) : (L.take (j + 1)).foldl newStep h = newStep ((L.take j).foldl newStep h) L[j] := by
  rw [List.take_succ_eq_append_getElem hj, List.foldl_append]; rfl
theorem new_bound (L : List UInt8) (h : Int) (h0 : 0 ≤ h) (h1 : h ≤ 1073741824) : 0 ≤ L.foldl newStep h ∧ L.foldl newStep h ≤ 1073741824 := by
  induction L generalizing h with
  | nil => exact ⟨h0, h1⟩
  | cons c L ih => exact ih _ (by unfold newStep; omega) (by unfold newStep; omega)
section
attribute [local go_sem] i64_and30
set_option maxHeartbeats 800000 in
set_option maxRecDepth 100000 in
theorem new_any (a : Option Addr) (L : List UInt8) (cap : Nat) (w : World) (hl : CodeAt w w.heap.size a L) (hlen : L.length ≤ 1048576) :
    Calls Tryz.prog 30 #[.slice a L.length cap] w fun e w' => e = .returned (.pointer (some ⟨w.heap.size, 0, none⟩)) ∧ w' = w.alloc (.cells #[.slice a L.length cap, .int .i64 0, .int .i64 (newF L)] 109) := by
  have HL : Hid (CodeAt w w.heap.size a L) := hl
  clear hl
  go_enter Tryz.func30, Tryz.ntmps30
  go_wp2
  go_loop [3, 4] (fun h i => ∃ (j : Nat) (x : Int), j ≤ L.length ∧ j ≤ 4000 ∧ i = .int .i64 j ∧ h = .int .i64 x ∧ 0 ≤ x ∧ x ≤ 1073741824 ∧ Hid ((L.take j).foldl newStep (10101 + (L.length : Int)) = x)) (fun _ i => 4000 - (intOf i).toNat)
  case atStart => exact ⟨0, _, by omega, by omega, rfl, rfl, by omega, by omega, rfl⟩
  case round =>
    obtain ⟨j, x, hj, hj4, rfl, rfl, hx0, hx1, HX⟩ := hrel
    by_cases hin : j < L.length ∧ j < 4000
    · obtain ⟨h1, h2⟩ := hin
      obtain ⟨b, off, rfl, hbg, hcell⟩ := HL.out j h1
      have hi1 : (j : Int) < (L.length : Int) := by omega
      have HS : Hid (_ = _) := new_snoc L (10101 + (L.length : Int)) j h1
      have HB : Hid (_ ∧ _) := new_bound (L.take (j + 1)) (10101 + (L.length : Int)) (by omega) (by omega)
      have hc : (L[j].toNat : Int) < 256 := by have := L[j].toNat_lt; omega
      obtain ⟨c, hcc⟩ : ∃ c : Int, (L[j].toNat : Int) = c := ⟨_, rfl⟩
      rw [hcc] at hcell hc
      have HCC : Hid (_ = _) := hcc
      have hc0 : 0 ≤ c := by omega
      clear hcc
      go_wp2
      go_round
      case rel =>
        refine ⟨j + 1, _, by omega, by omega, by go_num, rfl, by omega, by omega, ?_⟩
        show _ = _
        rw [HS.out, HX.out]; unfold newStep; rw [HCC.out]
      case measure => simp [intOf]; omega
    · have HF : Hid (newF L = x) := by
        show _ = _
        rw [← HX.out]
        unfold newF
        rcases (show j = 4000 ∨ (j = L.length ∧ L.length ≤ 4000) from by omega) with h | ⟨h, h'⟩
        · rw [h]
        · rw [h, List.take_of_length_le (Nat.le_refl _), List.take_of_length_le h']
      by_cases h1 : j < L.length
      · have h2 : ¬ (j : Int) < 4000 := by omega
        have h1' : (j : Int) < (L.length : Int) := by omega
        go_wp2
        go_ret
        exact ⟨rfl, by rw [HF.out]⟩
      · have h1' : ¬ (j : Int) < (L.length : Int) := by omega
        go_wp2
        go_ret
        exact ⟨rfl, by rw [HF.out]⟩
end
end Go.Proofs.YtajfmjgaaapjeaaGreatDoor
namespace Go.Proofs.YtajfmjgaaapjeaaGreatDoor
open Go.RowKit
open Num
set_option linter.unusedVariables false
def styl (st b : Int) : Int := if st = 1 then b % 2 else if st = 2 then 97 + b % 4 else b
theorem styl_bound (st b : Int) (h0 : 0 ≤ b) (h1 : b < 256) : 0 ≤ styl st b ∧ styl st b < 256 := by
  unfold styl; split
  · omega
  · split <;> omega
def textGo (L : List UInt8) (st : Int) : Nat → St → List UInt8 × St
  | 0, s => ([], s)
  | k + 1, s => (UInt8.ofNat (styl st (byteV L s)).toNat :: (textGo L st k (byteN L s)).1, (textGo L st k (byteN L s)).2)
theorem length_textGo (L : List UInt8) (st : Int) : ∀ k s, (textGo L st k s).1.length = k
  | 0, _ => rfl
  | k + 1, s => by simp [textGo, length_textGo L st k]
/-- What l1Text tells, and the state behind it. -/
def textP (L : List UInt8) (s : St) (most : Int) : List UInt8 × St :=
  textGo L (belowV L s 4) (belowV L (belowN L s 4) (most + 1)).toNat (belowN L (belowN L s 4) (most + 1))
theorem length_textP (L : List UInt8) (s : St) (most : Int) (h : 0 ≤ most) : ((textP L s most).1.length : Int) ≤ most := by
  have := belowV_bound L (belowN L s 4) (most + 1) (by omega)
  unfold textP; rw [length_textGo]; omega
set_option maxHeartbeats 800000 in
theorem text_any (g : Nat) (a : Option Addr) (L : List UInt8) (cap : Nat) (s : St) (most : Int) (w : World) (hc : CurAt w g a L.length cap s) (hl : CodeAt w g a L) (hlen : L.length ≤ 1048576) (hm0 : 0 ≤ most) (hm1 : most ≤ 1000) :
    Calls Tryz.prog 65 #[.pointer (some ⟨g, 0, none⟩), .int .i64 most] w fun e w' => e = .returned (.string ⟨(textP L s most).1.toArray⟩) ∧ CurAt w' g a L.length cap (textP L s most).2 ∧ w.grownBy w' (some g) := by
  have hsz : g < w.heap.size := (Array.getElem?_eq_some_iff.1 hc).1
  have hbn := belowV_bound L (belowN L s 4) (most + 1) (by omega)
  obtain ⟨P, hP⟩ : ∃ P, textP L s most = P := ⟨_, rfl⟩
  have HP : Hid (textGo L (belowV L s 4) (belowV L (belowN L s 4) (most + 1)).toNat (belowN L (belowN L s 4) (most + 1)) = P) := hP
  rw [hP]
  clear hP
  obtain ⟨st, hst⟩ : ∃ st, belowV L s 4 = st := ⟨_, rfl⟩
  obtain ⟨n, hn⟩ : ∃ n : Nat, belowV L (belowN L s 4) (most + 1) = (n : Int) := ⟨(belowV L (belowN L s 4) (most + 1)).toNat, by omega⟩
  rw [hst, hn] at HP
  rw [hn] at hbn
  have HST : Hid (_ = _) := hst
  have HNN : Hid (_ = _) := hn
  have hn1 : n ≤ 1000 := by omega
  have HC : Hid (CurAt (w.alloc (.cells #[] 5)) g a L.length cap s) := show (w.alloc _).heap[g]? = _ by
    rw [Below.heap_alloc _ _ _ hsz]; exact hc
  have HL : Hid (CodeAt (w.alloc (.cells #[] 5)) g a L) := CodeAt.kept hl (grown_alloc (grown_refl _ _) _)
  have hown0 := own_empty w
  obtain ⟨i0, hi, hz0, hz1, hz2⟩ := info5f
  have hg0 : w.grownBy (w.alloc (.cells #[] 5)) (some g) := grown_alloc (grown_refl _ _) _
  have HL0 : Hid (CodeAt w g a L) := hl
  clear hst hn hc hl hbn
  go_enter Tryz.func65, Tryz.ntmps65
  go_wp2_with fail
  refine (below_any g a L cap s 4 _ HC.out HL.out hlen).mono ?_
  rintro e w1 ⟨rfl, hc1, hg1⟩
  rw [HST.out]
  have HC1 : Hid (CurAt w1 g a L.length cap (belowN L s 4)) := hc1
  have HL1 : Hid (CodeAt w1 g a L) := CodeAt.kept HL.out hg1
  have hown1 := hown0.kept hg1 (Or.inr (by simp [Value.ownBlock]; omega))
  have hgw1 := grown_trans hg0 hg1
  clear hc1 hg1 hown0 hg0 HC HL
  go_wp2_with fail
  refine (below_any g a L cap _ (most + 1) _ HC1.out HL1.out hlen).mono ?_
  rintro e w2 ⟨rfl, hc2, hg2⟩
  rw [HNN.out]
  have HC2 : Hid (CurAt w2 g a L.length cap (belowN L (belowN L s 4) (most + 1))) := hc2
  have HL2 : Hid (CodeAt w2 g a L) := CodeAt.kept HL1.out hg2
  have hown2 := hown1.kept hg2 (Or.inr (by simp [Value.ownBlock]; omega))
  have hgw2 := grown_trans hgw1 hg2
  clear hc2 hg2 hown1 hgw1 HC1 HL1
  generalize belowN L (belowN L s 4) (most + 1) = s2 at HC2 HP
  go_wp2
  go_loopw [5, 7] (fun out i wr => ∃ (k j : Nat) (cs : List UInt8) (s' : St), k ≤ 1000 ∧ j ≤ 1000 ∧ k + j ≤ 1000 ∧ i = .int .i64 k ∧ wr.ownsRow w.heap.size 5 1 out j (cs.map u8v) ∧ Hid ((cs ++ (textGo L st k s').1, (textGo L st k s').2) = P) ∧ Hid (CurAt wr g a L.length cap s') ∧ Hid (CodeAt wr g a L) ∧ w.grownBy wr (some g)) (fun _ i _ => (intOf i).toNat)
  case atStart => exact ⟨n, 0, [], s2, by omega, by omega, by omega, rfl, hown2, HP, HC2, HL2, hgw2⟩
  case round =>
    clear hown2 HP HC2 HL2 hgw2 HST HNN
    obtain ⟨k, j, cs, s', hk, hj, hkj, rfl, hown, HP, HC, HL, hgw⟩ := hrel
    have hsr : w.heap.size ≤ wr.heap.size := hgw.size
    cases k with
    | zero =>
      have hcv := run_str_own (P := Tryz.prog) wr 22 9 5 Tryz.underlying22 Tryz.underlying5 Tryz.underlying9 _ _ _ _ hown
      go_wp2
      go_ret
      exact ⟨ret_str (by rw [← HP.out]; simp [textGo]), by rw [← HP.out]; exact HC.out, hgw⟩
    | succ k =>
      have hb := byteV_bound L s'
      have hsb := styl_bound st (byteV L s') hb.1 hb.2
      have HSB : Hid (_ ∧ _) := hsb
      have hpos : (0 : Int) < ((k + 1 : Nat) : Int) := by omega
      go_wp2_with fail
      refine (byte_any g a L cap s' _ HC.out HL.out hlen).mono ?_
      rintro e w1 ⟨rfl, hc1, hg1⟩
      have HC1 : Hid (CurAt w1 g a L.length cap (byteN L s')) := hc1
      have HL1 : Hid (CodeAt w1 g a L) := CodeAt.kept HL.out hg1
      have hne : u5.ownBlock ≠ some g := fun e => by have := (hown.lt g e).1; omega
      have hown1 := hown.kept hg1 (Or.inr hne)
      have hgw1 := grown_trans hgw hg1
      have hs1 : w.heap.size ≤ w1.heap.size := hgw1.size
      clear hc1 hg1 HC HL hgw
      by_cases h1 : st = 1
      · have HE : styl st (byteV L s') = byteV L s' % 2 := by unfold styl; rw [if_pos h1]
        have HPN : Hid ((cs ++ [UInt8.ofNat (byteV L s' % 2).toNat] ++ (textGo L st k (byteN L s')).1, (textGo L st k (byteN L s')).2) = P) := by
          show _ = _
          rw [← HP.out, List.append_assoc]
          simp only [textGo, HE]
          rfl
        clear HE
        have hq1 : (st == 1) = true := by rw [h1]; rfl
        have hq2 : (st == 2) = false := by rw [h1]; rfl
        clear h1
        have hx0 : 0 ≤ byteV L s' % 2 := by omega
        have hx1 : byteV L s' % 2 < 256 := by omega
        have HCC : Hid (_) := one_cell w1 _ hx0 hx1
        go_wp2_with (at_builtin; refine wpList_append_own _ rfl _ _ 22 rfl w.heap.size 5 i0 (.int .u8 0) 1 1 Tryz.underlying22 hi hz0 hz1 hz2 rfl (by decide) _ _ _ rfl (hown1.alloc _) ⟨w1.heap.size, 0, none⟩ 1 1 ([UInt8.ofNat (byteV L s' % 2).toNat].map u8v) rfl rfl HCC (u8v_one _) (by unfold maxLen; omega) (by omega) (by simp; omega) ?_)
        intro v' w2 hown' hgrow _
        replace hown' := own_snoc hown'
        have hg2 := grown_alloc (grown_refl w1 (some g)) (.cells #[.int .u8 (byteV L s' % 2)] 5)
        have HC2 : Hid (CurAt w2 g a L.length cap (byteN L s')) := cur_kept (cur_kept HC1.out (grown_alloc (grown_refl w1 none) _) (by simp)) hgrow hne
        have hgw2 := grown_fresh (grown_trans hgw1 hg2) hgrow (fun j hj => (hown.lt j hj).1)
        have HL2 : Hid (CodeAt w2 g a L) := CodeAt.kept HL0.out hgw2
        have HP2 : Hid (_ = P) := HPN.out
        clear hgrow hg2 hgw1 HC1 HL1 hown1 HCC
        go_wp2
        go_roundw
        case rel =>
          have R : ∃ (k' j' : Nat) (cs' : List UInt8) (s'' : St), k' ≤ 1000 ∧ j' ≤ 1000 ∧ k' + j' ≤ 1000 ∧ Value.int .i64 (k : Int) = .int .i64 (k' : Int) ∧ w2.ownsRow w.heap.size 5 1 v' j' (cs'.map u8v) ∧ Hid ((cs' ++ (textGo L st k' s'').1, (textGo L st k' s'').2) = P) ∧ Hid (CurAt w2 g a L.length cap s'') ∧ Hid (CodeAt w2 g a L) ∧ w.grownBy w2 (some g) :=
            ⟨k, j + 1, _, byteN L s', by omega, by omega, by omega, rfl, hown', HP2, HC2, HL2, hgw2⟩
          first | exact R | ((repeat apply Exists.intro); exact ⟨R, rfl⟩)
        case measure => simp [intOf]
      · by_cases h2 : st = 2
        · have HE : styl st (byteV L s') = 97 + byteV L s' % 4 := by unfold styl; rw [if_neg h1, if_pos h2]
          have HPN : Hid ((cs ++ [UInt8.ofNat (97 + byteV L s' % 4).toNat] ++ (textGo L st k (byteN L s')).1, (textGo L st k (byteN L s')).2) = P) := by
            show _ = _
            rw [← HP.out, List.append_assoc]
            simp only [textGo, HE]
            rfl
          clear HE
          have hq1 : (st == 1) = false := by rw [h2]; rfl
          have hq2 : (st == 2) = true := by rw [h2]; rfl
          clear h1 h2
          have hx0 : 0 ≤ 97 + byteV L s' % 4 := by omega
          have hx1 : 97 + byteV L s' % 4 < 256 := by omega
          have HCC : Hid (_) := one_cell w1 _ hx0 hx1
          go_wp2_with (at_builtin; refine wpList_append_own _ rfl _ _ 22 rfl w.heap.size 5 i0 (.int .u8 0) 1 1 Tryz.underlying22 hi hz0 hz1 hz2 rfl (by decide) _ _ _ rfl (hown1.alloc _) ⟨w1.heap.size, 0, none⟩ 1 1 ([UInt8.ofNat (97 + byteV L s' % 4).toNat].map u8v) rfl rfl HCC (u8v_one _) (by unfold maxLen; omega) (by omega) (by simp; omega) ?_)
          intro v' w2 hown' hgrow _
          replace hown' := own_snoc hown'
          have hg2 := grown_alloc (grown_refl w1 (some g)) (.cells #[.int .u8 (97 + byteV L s' % 4)] 5)
          have HC2 : Hid (CurAt w2 g a L.length cap (byteN L s')) := cur_kept (cur_kept HC1.out (grown_alloc (grown_refl w1 none) _) (by simp)) hgrow hne
          have hgw2 := grown_fresh (grown_trans hgw1 hg2) hgrow (fun j hj => (hown.lt j hj).1)
          have HL2 : Hid (CodeAt w2 g a L) := CodeAt.kept HL0.out hgw2
          have HP2 : Hid (_ = P) := HPN.out
          clear hgrow hg2 hgw1 HC1 HL1 hown1 HCC
          go_wp2
          go_roundw
          case rel =>
            have R : ∃ (k' j' : Nat) (cs' : List UInt8) (s'' : St), k' ≤ 1000 ∧ j' ≤ 1000 ∧ k' + j' ≤ 1000 ∧ Value.int .i64 (k : Int) = .int .i64 (k' : Int) ∧ w2.ownsRow w.heap.size 5 1 v' j' (cs'.map u8v) ∧ Hid ((cs' ++ (textGo L st k' s'').1, (textGo L st k' s'').2) = P) ∧ Hid (CurAt w2 g a L.length cap s'') ∧ Hid (CodeAt w2 g a L) ∧ w.grownBy w2 (some g) :=
              ⟨k, j + 1, _, byteN L s', by omega, by omega, by omega, rfl, hown', HP2, HC2, HL2, hgw2⟩
            first | exact R | ((repeat apply Exists.intro); exact ⟨R, rfl⟩)
          case measure => simp [intOf]
        · have HE : styl st (byteV L s') = byteV L s' := by unfold styl; rw [if_neg h1, if_neg h2]
          have HPN : Hid ((cs ++ [UInt8.ofNat (byteV L s').toNat] ++ (textGo L st k (byteN L s')).1, (textGo L st k (byteN L s')).2) = P) := by
            show _ = _
            rw [← HP.out, List.append_assoc]
            simp only [textGo, HE]
            rfl
          clear HE
          have hq1 : (st == 1) = false := by simpa using h1
          have hq2 : (st == 2) = false := by simpa using h2
          clear h1 h2
          have hx0 : 0 ≤ byteV L s' := by omega
          have hx1 : byteV L s' < 256 := by omega
          have HCC : Hid (_) := one_cell w1 _ hx0 hx1
          go_wp2_with (at_builtin; refine wpList_append_own _ rfl _ _ 22 rfl w.heap.size 5 i0 (.int .u8 0) 1 1 Tryz.underlying22 hi hz0 hz1 hz2 rfl (by decide) _ _ _ rfl (hown1.alloc _) ⟨w1.heap.size, 0, none⟩ 1 1 ([UInt8.ofNat (byteV L s').toNat].map u8v) rfl rfl HCC (u8v_one _) (by unfold maxLen; omega) (by omega) (by simp; omega) ?_)
          intro v' w2 hown' hgrow _
          replace hown' := own_snoc hown'
          have hg2 := grown_alloc (grown_refl w1 (some g)) (.cells #[.int .u8 (byteV L s')] 5)
          have HC2 : Hid (CurAt w2 g a L.length cap (byteN L s')) := cur_kept (cur_kept HC1.out (grown_alloc (grown_refl w1 none) _) (by simp)) hgrow hne
          have hgw2 := grown_fresh (grown_trans hgw1 hg2) hgrow (fun j hj => (hown.lt j hj).1)
          have HL2 : Hid (CodeAt w2 g a L) := CodeAt.kept HL0.out hgw2
          have HP2 : Hid (_ = P) := HPN.out
          clear hgrow hg2 hgw1 HC1 HL1 hown1 HCC
          go_wp2
          go_roundw
          case rel =>
            have R : ∃ (k' j' : Nat) (cs' : List UInt8) (s'' : St), k' ≤ 1000 ∧ j' ≤ 1000 ∧ k' + j' ≤ 1000 ∧ Value.int .i64 (k : Int) = .int .i64 (k' : Int) ∧ w2.ownsRow w.heap.size 5 1 v' j' (cs'.map u8v) ∧ Hid ((cs' ++ (textGo L st k' s'').1, (textGo L st k' s'').2) = P) ∧ Hid (CurAt w2 g a L.length cap s'') ∧ Hid (CodeAt w2 g a L) ∧ w.grownBy w2 (some g) :=
              ⟨k, j + 1, _, byteN L s', by omega, by omega, by omega, rfl, hown', HP2, HC2, HL2, hgw2⟩
            first | exact R | ((repeat apply Exists.intro); exact ⟨R, rfl⟩)
          case measure => simp [intOf]
end Go.Proofs.YtajfmjgaaapjeaaGreatDoor
namespace Go.Proofs.YtajfmjgaaapjeaaGreatDoor
open Go.RowKit
open Num
set_option linter.unusedVariables false
/-- A cursor at block g over some code; both lie below B. -/
def DS (w : World) (g B : Nat) : Prop :=
  ∃ (a : Option Addr) (L : List UInt8) (cap : Nat) (s : St), L.length ≤ 1048576 ∧ CurAt w g a L.length cap s ∧ CodeAt w g a L ∧ g < B ∧ ∀ j, j < L.length → ∃ b off, a = some ⟨b, off, none⟩ ∧ b < B
theorem DS.below {w w' : World} {g B : Nat} (h : DS w g B) (hb : Below B w w') : DS w' g B := by
  obtain ⟨a, L, cap, s, h1, h2, h3, h4, h5⟩ := h
  refine ⟨a, L, cap, s, h1, ?_, fun j hj => ?_, h4, h5⟩
  · unfold CurAt at h2 ⊢
    rw [hb.block g h4]; exact h2
  · obtain ⟨b, off, e, hne, hc⟩ := h3 j hj
    obtain ⟨b', off', e', hlt⟩ := h5 j hj
    rw [e] at e'
    simp at e'
    obtain ⟨rfl, rfl⟩ := e'
    exact ⟨b, off, e, hne, by rw [hb.cell (p := ⟨b, off + j, none⟩) hlt]; exact hc⟩
theorem DS.lt {w : World} {g B : Nat} (h : DS w g B) : g < B := by
  obtain ⟨a, L, cap, s, h1, h2, h3, h4, h5⟩ := h
  exact h4
theorem DS.lt' {w : World} {g B : Nat} (h : DS w g B) : g < w.heap.size := by
  obtain ⟨a, L, cap, s, h1, h2, h3, h4, h5⟩ := h
  exact (Array.getElem?_eq_some_iff.1 h2).1
theorem below_d (g B : Nat) (n : Int) (w : World) (h : DS w g B) (hn : 0 < n) :
    Calls Tryz.prog 34 #[.pointer (some ⟨g, 0, none⟩), .int .i64 n] w fun e w' => ∃ x : Int, e = .returned (.int .i64 x) ∧ 0 ≤ x ∧ x < n ∧ Hid (DS w' g B) ∧ Hid (w.grownBy w' (some g)) := by
  obtain ⟨a, L, cap, s, h1, h2, h3, h4, h5⟩ := h
  refine (below_any g a L cap s n w h2 h3 h1).mono ?_
  rintro e w' ⟨rfl, hc, hg⟩
  have hb := belowV_bound L s n hn
  exact ⟨_, rfl, hb.1, hb.2, ⟨a, L, cap, _, h1, hc, h3.kept hg, h4, h5⟩, hg⟩
theorem once_d (g B : Nat) (n : Int) (w : World) (h : DS w g B) :
    Calls Tryz.prog 35 #[.pointer (some ⟨g, 0, none⟩), .int .i64 n] w fun e w' => ∃ x : Bool, e = .returned (.bool x) ∧ Hid (DS w' g B) ∧ Hid (w.grownBy w' (some g)) := by
  obtain ⟨a, L, cap, s, h1, h2, h3, h4, h5⟩ := h
  refine (once_any g a L cap s n w h2 h3 h1).mono ?_
  rintro e w' ⟨rfl, hc, hg⟩
  exact ⟨_, rfl, ⟨a, L, cap, _, h1, hc, h3.kept hg, h4, h5⟩, hg⟩
theorem pick_d (g gl B : Nat) (zs : List Int) (w : World) (h : DS w g B) (hz : w.heap[gl]? = some (.cells (zs.map (Value.int .i64)).toArray 3 (0, 0))) (hne : gl ≠ g) (h0 : 0 < zs.length) (hl1 : zs.length ≤ 256) :
    Calls Tryz.prog 63 #[.pointer (some ⟨g, 0, none⟩), .slice (some ⟨gl, 0, none⟩) zs.length zs.length] w fun e w' => ∃ x : Int, e = .returned (.int .i64 x) ∧ Hid (x ∈ zs) ∧ Hid (DS w' g B) ∧ Hid (w.grownBy w' (some g)) := by
  obtain ⟨a, L, cap, s, h1, h2, h3, h4, h5⟩ := h
  refine (pick_any g gl a L cap s zs w h2 h3 h1 hz hne h0 hl1).mono ?_
  rintro e w' ⟨rfl, hc, hg⟩
  have hb := belowV_bound L s zs.length (by omega)
  refine ⟨_, rfl, ?_, ⟨a, L, cap, _, h1, hc, h3.kept hg, h4, h5⟩, hg⟩
  show _ ∈ zs
  rw [List.getD_eq_getElem?_getD, List.getElem?_eq_getElem (show (belowV L s zs.length).toNat < zs.length by omega)]
  exact List.getElem_mem ..
theorem text_d (g B : Nat) (most : Int) (w : World) (h : DS w g B) (hm0 : 0 ≤ most) (hm1 : most ≤ 1000) :
    Calls Tryz.prog 65 #[.pointer (some ⟨g, 0, none⟩), .int .i64 most] w fun e w' => ∃ t : ByteArray, e = .returned (.string t) ∧ Hid ((t.size : Int) ≤ most) ∧ Hid (DS w' g B) ∧ Hid (w.grownBy w' (some g)) := by
  obtain ⟨a, L, cap, s, h1, h2, h3, h4, h5⟩ := h
  refine (text_any g a L cap s most w h2 h3 h1 hm0 hm1).mono ?_
  rintro e w' ⟨rfl, hc, hg⟩
  refine ⟨_, rfl, ?_, ⟨a, L, cap, _, h1, hc, h3.kept hg, h4, h5⟩, hg⟩
  have := length_textP L s most hm0
  show (((textP L s most).1.toArray.size : Nat) : Int) ≤ most
  rw [List.size_toArray]; exact this
end Go.Proofs.YtajfmjgaaapjeaaGreatDoor
