/- The cursor of the draws: what spec.l1New, l1Byte, l1Below .. answer, as functions of the code's bytes and the cursor's state. -/
import Derived.Test.YtmjlpdmdpagggaaBe
import Derived.Test.YtmjlpdmdpagggaaLaw
import Derived.Deep.QuietTactic
import Derived.BigQuiet
import Derived.Laws.BitsLemmas
import Derived.Outline
namespace Go.Proofs.Ytmjlpdmdpagggaa
open Go.RowKit
open Num
set_option linter.unusedVariables false
/-- The cursor's state: the place in the code, and the mix. -/
structure St where
  i : Nat
  h : Int
def CurAt (w : World) (g : Nat) (a : Option Addr) (len cap : Nat) (s : St) : Prop :=
  w.heap[g]? = some (.cells #[.slice a len cap, .int .i64 (s.i : Int), .int .i64 s.h] 98 (0, 0))
/-- The code's bytes lie where the slice says, in another block than g. -/
def CodeAt (w : World) (g : Nat) (a : Option Addr) (L : List UInt8) : Prop :=
  ∀ j (hj : j < L.length), ∃ b off, a = some ⟨b, off, none⟩ ∧ b ≠ g ∧ w.cell? ⟨b, off + j, none⟩ = some (.int .u8 (L[j].toNat : Int))
theorem grown_refl (w : World) (r : Option Nat) : w.grownBy w r := ⟨rfl, rfl, rfl, Nat.le_refl _, fun _ _ _ => rfl⟩
theorem grown_trans {a b c : World} {r : Option Nat} (h : a.grownBy b r) (k : b.grownBy c r) : a.grownBy c r :=
  ⟨k.os.trans h.os, k.tape.trans h.tape, k.output.trans h.output, Nat.le_trans h.size k.size, fun i hi hr => (k.block i (Nat.lt_of_lt_of_le hi h.size) hr).trans (h.block i hi hr)⟩
theorem grown_set {a w : World} {g j : Nat} (h : a.grownBy w (some g)) (u : Value) : a.grownBy (w.setCell ⟨g, j, none⟩ u) (some g) :=
  grown_trans h ⟨rfl, rfl, rfl, by simp, fun k _ hk => heap_setCell_other w ⟨g, j, none⟩ k u (fun e => hk (by simp [e]))⟩
theorem grown_drewN {a w : World} {r : Option Nat} (h : a.grownBy w r) (n : Nat) : a.grownBy (w.drewN n) r := grown_trans h ⟨rfl, rfl, rfl, Nat.le_refl _, fun _ _ _ => rfl⟩
theorem grown_drew {a w : World} {r : Option Nat} (h : a.grownBy w r) : a.grownBy w.drew r := grown_trans h ⟨rfl, rfl, rfl, Nat.le_refl _, fun _ _ _ => rfl⟩
theorem grown_alloc {a w : World} {r : Option Nat} (h : a.grownBy w r) (o : Obj) : a.grownBy (w.alloc o) r :=
  grown_trans h ⟨rfl, rfl, rfl, by simp, fun k hk _ => Below.heap_alloc w o k hk⟩
theorem below_grownBy {B g : Nat} {w w' : World} (h : w.grownBy w' (some g)) (hB : B ≤ w.heap.size) (hg : B ≤ g) : Below B w w' :=
  (Below.refl _ _).grown h hB (fun k hk => by cases hk; exact hg)
theorem CodeAt.kept {w w' : World} {g : Nat} {a : Option Addr} {L : List UInt8} (h : CodeAt w g a L) (hg : w.grownBy w' (some g)) : CodeAt w' g a L := by
  intro j hj
  obtain ⟨b, off, ha, hb, hc⟩ := h j hj
  exact ⟨b, off, ha, hb, hg.cell hc (by simpa using hb)⟩
theorem cur_cells {w : World} {g : Nat} {a : Option Addr} {len cap : Nat} {s : St} (hc : CurAt w g a len cap s) :
    w.cell? ⟨g, 0, none⟩ = some (.slice a len cap) ∧ w.cell? ⟨g, 1, none⟩ = some (.int .i64 (s.i : Int)) ∧ w.cell? ⟨g, 2, none⟩ = some (.int .i64 s.h) ∧ w.frozen? ⟨g, 1, none⟩ = false ∧ w.frozen? ⟨g, 2, none⟩ = false :=
  ⟨by rw [cell_of_row w g 0 _ 98 (0, 0) hc]; rfl, by rw [cell_of_row w g 1 _ 98 (0, 0) hc]; rfl, by rw [cell_of_row w g 2 _ 98 (0, 0) hc]; rfl, frozen_of_row w g 1 _ 98 hc, frozen_of_row w g 2 _ 98 hc⟩
theorem cur_set2 {w : World} {g : Nat} {a : Option Addr} {len cap i : Nat} {h : Int} (hc : CurAt w g a len cap ⟨i, h⟩) (m : Int) : CurAt (w.setCell ⟨g, 2, none⟩ (.int .i64 m)) g a len cap ⟨i, m⟩ := by
  unfold CurAt at hc ⊢
  rw [heap_setCell_same w g 2 _ 98 _ hc]; rfl
theorem cur_set1 {w : World} {g : Nat} {a : Option Addr} {len cap i : Nat} {h : Int} (hc : CurAt w g a len cap ⟨i, h⟩) (k : Nat) (x : Int) (hx : x = (k : Int)) : CurAt (w.setCell ⟨g, 1, none⟩ (.int .i64 x)) g a len cap ⟨k, h⟩ := by
  unfold CurAt at hc ⊢
  rw [heap_setCell_same w g 1 _ 98 _ hc, hx]; rfl
theorem i64_and255 (n : Int) : bits .and .i64 n 255 = n % 256 := by
  have h255 : (BitVec.ofInt 64 255).toNat = 2 ^ 8 - 1 := by decide
  have key : (BitVec.ofInt 64 n &&& BitVec.ofInt 64 255).toNat = (n % ((2 ^ 64 : Nat) : Int)).toNat % 2 ^ 8 := by
    rw [BitVec.toNat_and, BitVec.toNat_ofInt, h255, Nat.and_two_pow_sub_one_eq_mod]
  show IntKind.i64.wrap ((BitVec.ofInt 64 n &&& BitVec.ofInt 64 255).toNat : Nat) = n % 256
  rw [key, IntKind.wrap_i64]
  omega
theorem i64_and30 (n : Int) : bits .and .i64 n 1073741823 = n % 1073741824 := by
  have h255 : (BitVec.ofInt 64 1073741823).toNat = 2 ^ 30 - 1 := by decide
  have key : (BitVec.ofInt 64 n &&& BitVec.ofInt 64 1073741823).toNat = (n % ((2 ^ 64 : Nat) : Int)).toNat % 2 ^ 30 := by
    rw [BitVec.toNat_and, BitVec.toNat_ofInt, h255, Nat.and_two_pow_sub_one_eq_mod]
  show IntKind.i64.wrap ((BitVec.ofInt 64 n &&& BitVec.ofInt 64 1073741823).toNat : Nat) = n % 1073741824
  rw [key, IntKind.wrap_i64]
  omega
def mixF (h : Int) : Int := wrap64 (wrap64 (h * 6364136223846793005) + 1442695040888963407)
def xF (m : Int) : Int := bits BinOp.xor IntKind.i64 (m / 8589934592) (m / 35184372088832) % 256
/-- What l1Byte tells, and the state behind it. -/
def byteV (L : List UInt8) (s : St) : Int := if h : s.i < L.length then (xF (mixF s.h) + (L[s.i].toNat : Int)) % 256 else xF (mixF s.h)
def byteN (L : List UInt8) (s : St) : St := ⟨if s.i < L.length then s.i + 1 else s.i, mixF s.h⟩
theorem byteV_bound (L : List UInt8) (s : St) : 0 ≤ byteV L s ∧ byteV L s < 256 := by
  unfold byteV xF; split <;> omega
theorem ret_i64 {a b : Int} (h : a = b) : Ending.returned (.int .i64 a) = .returned (.int .i64 b) := by rw [h]
section
attribute [local go_sem] i64_and255
set_option maxHeartbeats 800000 in
set_option maxRecDepth 100000 in
theorem byte_any (g : Nat) (a : Option Addr) (L : List UInt8) (cap : Nat) (s : St) (w : World) (hc : CurAt w g a L.length cap s) (hl : CodeAt w g a L) (hlen : L.length ≤ 1048576) :
    Calls Try.prog 84 #[.pointer (some ⟨g, 0, none⟩)] w fun e w' => e = .returned (.int .i64 (byteV L s)) ∧ CurAt w' g a L.length cap (byteN L s) ∧ w.grownBy w' (some g) := by
  obtain ⟨c0, c1, c2, f1, f2⟩ := cur_cells hc
  obtain ⟨i, h⟩ := s
  simp only [] at c1 c2
  by_cases hi : i < L.length
  · obtain ⟨b, off, rfl, hbg, hcell⟩ := hl i hi
    have hv : byteV L ⟨i, h⟩ = (xF (mixF h) + (L[i].toNat : Int)) % 256 := by unfold byteV; simp only [dif_pos hi]
    have hn : byteN L ⟨i, h⟩ = ⟨i + 1, mixF h⟩ := by unfold byteN; simp only [if_pos hi]
    rw [hv, hn]
    have HC : Hid (_) := hc
    have hx : (L[i].toNat : Int) < 256 := by have := L[i].toNat_lt; omega
    generalize hLi : (L[i].toNat : Int) = x at hx hcell
    have hx0 : 0 ≤ x := by omega
    have hcode : ∀ v, (w.setCell ⟨g, 2, none⟩ v).cell? ⟨b, off + i, none⟩ = some (.int .u8 x) := fun v => by
      rw [World.cell?_of_block (w := w) (heap_setCell_other w ⟨g, 2, none⟩ b v hbg)]; exact hcell
    have hi' : (i : Int) < (L.length : Int) := by omega
    clear hv hn hl hc hLi
    go_enter Try.func84, Try.ntmps84
    go_wp2
    generalize hm : wrap64 (wrap64 (h * 6364136223846793005) + 1442695040888963407) = m
    have HM : Hid (mixF h = m) := hm
    clear hm
    go_quiet (fail)
    go_wp2
    go_quiet (fail)
    go_wp2
    go_quiet (fail)
    go_wp2
    go_ret
    refine ⟨ret_i64 (by rw [HM.out]; unfold xF; omega), ?_, grown_set (grown_drewN (grown_set (grown_refl _ _) _) _) _⟩
    rw [HM.out]
    exact cur_set1 (w := (w.setCell ⟨g, 2, none⟩ (.int .i64 m)).drewN _) (cur_set2 HC.out m) (i + 1) _ (by omega)
  · have hv : byteV L ⟨i, h⟩ = xF (mixF h) := by unfold byteV; simp only [dif_neg hi]
    have hn : byteN L ⟨i, h⟩ = ⟨i, mixF h⟩ := by unfold byteN; simp only [if_neg hi]
    rw [hv, hn]
    have HC : Hid (_) := hc
    clear hv hn hl hc
    go_enter Try.func84, Try.ntmps84
    go_wp2
    generalize hm : wrap64 (wrap64 (h * 6364136223846793005) + 1442695040888963407) = m
    have HM : Hid (mixF h = m) := hm
    clear hm
    go_quiet (fail)
    go_wp2
    go_quiet (fail)
    go_wp2
    go_ret
    refine ⟨ret_i64 (by rw [HM.out]; unfold xF; rfl), ?_, grown_drewN (grown_drewN (grown_set (grown_refl _ _) _) _) _⟩
    rw [HM.out]
    exact cur_set2 HC.out m
end
/-- What l1Below tells, and the state behind it. -/
def belowV (L : List UInt8) (s : St) (n : Int) : Int :=
  if n ≤ 0 then 0 else if n ≤ 256 then byteV L s % n
  else (byteV L s * 16777216 + byteV L (byteN L s) * 65536 + byteV L (byteN L (byteN L s)) * 256 + byteV L (byteN L (byteN L (byteN L s)))) % n
def belowN (L : List UInt8) (s : St) (n : Int) : St :=
  if n ≤ 0 then s else if n ≤ 256 then byteN L s else byteN L (byteN L (byteN L (byteN L s)))
theorem belowV_bound (L : List UInt8) (s : St) (n : Int) (h : 0 < n) : 0 ≤ belowV L s n ∧ belowV L s n < n := by
  unfold belowV
  rw [if_neg (by omega)]
  split <;> exact ⟨Int.emod_nonneg _ (by omega), Int.emod_lt_of_pos _ h⟩
set_option maxHeartbeats 800000 in
theorem below_any (g : Nat) (a : Option Addr) (L : List UInt8) (cap : Nat) (s : St) (n : Int) (w : World) (hc : CurAt w g a L.length cap s) (hl : CodeAt w g a L) (hlen : L.length ≤ 1048576) :
    Calls Try.prog 69 #[.pointer (some ⟨g, 0, none⟩), .int .i64 n] w fun e w' => e = .returned (.int .i64 (belowV L s n)) ∧ CurAt w' g a L.length cap (belowN L s n) ∧ w.grownBy w' (some g) := by
  have HC : Hid (_) := hc
  have HL : Hid (_) := hl
  clear hc hl
  by_cases h0 : n ≤ 0
  · have hv : belowV L s n = 0 := by unfold belowV; rw [if_pos h0]
    have hn : belowN L s n = s := by unfold belowN; rw [if_pos h0]
    rw [hv, hn]
    clear hv hn
    go_enter Try.func69, Try.ntmps69
    go_wp2
    go_ret
    exact ⟨rfl, HC.out, grown_refl _ _⟩
  · by_cases h256 : n ≤ 256
    · have hv : belowV L s n = byteV L s % n := by unfold belowV; rw [if_neg h0, if_pos h256]
      have hn : belowN L s n = byteN L s := by unfold belowN; rw [if_neg h0, if_pos h256]
      rw [hv, hn]
      clear hv hn
      have hb := byteV_bound L s
      go_enter Try.func69, Try.ntmps69
      go_wp2_with fail
      refine (byte_any g a L cap s _ HC.out HL.out hlen).mono ?_
      rintro e w1 ⟨rfl, hc1, hg1⟩
      have HC1 : Hid (_) := hc1
      clear hc1
      go_wp2
      go_ret
      exact ⟨rfl, HC1.out, hg1⟩
    · have hv : belowV L s n = (byteV L s * 16777216 + byteV L (byteN L s) * 65536 + byteV L (byteN L (byteN L s)) * 256 + byteV L (byteN L (byteN L (byteN L s)))) % n := by unfold belowV; rw [if_neg h0, if_neg h256]
      have hn : belowN L s n = byteN L (byteN L (byteN L (byteN L s))) := by unfold belowN; rw [if_neg h0, if_neg h256]
      rw [hv, hn]
      clear hv hn
      have hb0 := byteV_bound L s
      have hb1 := byteV_bound L (byteN L s)
      have hb2 := byteV_bound L (byteN L (byteN L s))
      have hb3 := byteV_bound L (byteN L (byteN L (byteN L s)))
      go_enter Try.func69, Try.ntmps69
      go_wp2_with fail
      refine (byte_any g a L cap s _ HC.out HL.out hlen).mono ?_
      rintro e w1 ⟨rfl, hc1, hg1⟩
      have HC1 : Hid (_) := hc1
      have HL1 : Hid (_) := CodeAt.kept HL.out hg1
      clear hc1
      go_wp2_with fail
      refine (byte_any g a L cap _ _ HC1.out HL1.out hlen).mono ?_
      rintro e w2 ⟨rfl, hc2, hg2⟩
      have HC2 : Hid (_) := hc2
      have HL2 : Hid (_) := CodeAt.kept HL1.out hg2
      clear hc2
      go_wp2_with fail
      refine (byte_any g a L cap _ _ HC2.out HL2.out hlen).mono ?_
      rintro e w3 ⟨rfl, hc3, hg3⟩
      have HC3 : Hid (_) := hc3
      have HL3 : Hid (_) := CodeAt.kept HL2.out hg3
      clear hc3
      go_wp2_with fail
      refine (byte_any g a L cap _ _ HC3.out HL3.out hlen).mono ?_
      rintro e w4 ⟨rfl, hc4, hg4⟩
      have HC4 : Hid (_) := hc4
      clear hc4
      go_wp2
      go_ret
      exact ⟨rfl, HC4.out, grown_trans hg1 (grown_trans hg2 (grown_trans hg3 hg4))⟩
set_option maxHeartbeats 400000 in
theorem once_any (g : Nat) (a : Option Addr) (L : List UInt8) (cap : Nat) (s : St) (n : Int) (w : World) (hc : CurAt w g a L.length cap s) (hl : CodeAt w g a L) (hlen : L.length ≤ 1048576) :
    Calls Try.prog 49 #[.pointer (some ⟨g, 0, none⟩), .int .i64 n] w fun e w' => e = .returned (.bool (belowV L s n == 0)) ∧ CurAt w' g a L.length cap (belowN L s n) ∧ w.grownBy w' (some g) := by
  have HC : Hid (_) := hc
  have HL : Hid (_) := hl
  clear hc hl
  go_enter Try.func49, Try.ntmps49
  go_wp2_with fail
  refine (below_any g a L cap s n _ HC.out HL.out hlen).mono ?_
  rintro e w1 ⟨rfl, hc1, hg1⟩
  have HC1 : Hid (_) := hc1
  clear hc1
  go_wp2
  go_ret
  exact ⟨rfl, HC1.out, hg1⟩
end Go.Proofs.Ytmjlpdmdpagggaa
