/- The cursor of the draws: what spec.l1New, l1Byte, l1Below .. answer, as functions of the code's bytes and the cursor's state. -/
import Derived.Test.YtaeokecodejpdaaVl
import Derived.Test.YtaeokecodejpdaaLaw
import Derived.Deep.QuietTactic
import Derived.BigQuiet
import Derived.Laws.BitsLemmas
import Derived.Outline
namespace Go.Proofs.Ytaeokecodejpdaa
open Go.RowKit
open Num
set_option linter.unusedVariables false
/-- The cursor's state: the place in the code, and the mix. -/
structure St where
  i : Nat
  h : Int
def CurAt (w : World) (g : Nat) (a : Option Addr) (len cap : Nat) (s : St) : Prop :=
  w.heap[g]? = some (.cells #[.slice a len cap, .int .i64 (s.i : Int), .int .i64 s.h] 74 (0, 0))
/-- The code's bytes lie where the slice says, in another block than g. -/
def CodeAt (w : World) (g : Nat) (a : Option Addr) (L : List UInt8) : Prop :=
  ∀ j (hj : j < L.length), ∃ b off, a = some ⟨b, off, none⟩ ∧ b ≠ g ∧ w.cell? ⟨b, off + j, none⟩ = some (.int .u8 (L[j].toNat : Int))
theorem grown_refl (w : World) (r : Option Nat) : w.grownBy w r := ⟨rfl, rfl, rfl, Nat.le_refl _, fun _ _ _ => rfl⟩
theorem grown_trans {a b c : World} {r : Option Nat} (h : a.grownBy b r) (k : b.grownBy c r) : a.grownBy c r :=
  ⟨k.os.trans h.os, k.tape.trans h.tape, k.output.trans h.output, Nat.le_trans h.size k.size, fun i hi hr => (k.block i (Nat.lt_of_lt_of_le hi h.size) hr).trans (h.block i hi hr)⟩
theorem grown_set {a w : World} {g j : Nat} (h : a.grownBy w (some g)) (u : Value) : a.grownBy (w.setCell ⟨g, j, none⟩ u) (some g) :=
  grown_trans h ⟨rfl, rfl, rfl, by simp, fun k _ hk => heap_setCell_other w ⟨g, j, none⟩ k u (fun e => hk (by simp [e]))⟩
theorem grown_drewN {a w : World} {r : Option Nat} (h : a.grownBy w r) (n : Nat) : a.grownBy (w.drewN n) r := grown_trans h ⟨rfl, rfl, rfl, Nat.le_refl _, fun _ _ _ => rfl⟩
theorem grown_drew {a w : World} {r : Option Nat} (h : a.grownBy w r) : a.grownBy w.drew r := grown_trans h ⟨rfl, rfl, rfl, Nat.le_refl _, fun _ _ _ => rfl⟩
theorem grown_alloc {a w : World} {r : Option Nat} (h : a.grownBy w r) (o : Obj) : a.grownBy (w.alloc o) r :=
  grown_trans h ⟨rfl, rfl, rfl, by simp, fun k hk _ => Below.heap_alloc w o k hk⟩
theorem below_grownBy {B g : Nat} {w w' : World} (h : w.grownBy w' (some g)) (hB : B ≤ w.heap.size) (hg : B ≤ g) : Below B w w' :=
  (Below.refl _ _).grown h hB (fun k hk => by cases hk; exact hg)
theorem CodeAt.kept {w w' : World} {g : Nat} {a : Option Addr} {L : List UInt8} (h : CodeAt w g a L) (hg : w.grownBy w' (some g)) : CodeAt w' g a L := by
  intro j hj
  obtain ⟨b, off, ha, hb, hc⟩ := h j hj
  exact ⟨b, off, ha, hb, hg.cell hc (by simpa using hb)⟩
theorem cur_cells {w : World} {g : Nat} {a : Option Addr} {len cap : Nat} {s : St} (hc : CurAt w g a len cap s) :
    w.cell? ⟨g, 0, none⟩ = some (.slice a len cap) ∧ w.cell? ⟨g, 1, none⟩ = some (.int .i64 (s.i : Int)) ∧ w.cell? ⟨g, 2, none⟩ = some (.int .i64 s.h) ∧ w.frozen? ⟨g, 1, none⟩ = false ∧ w.frozen? ⟨g, 2, none⟩ = false :=
  ⟨by rw [cell_of_row w g 0 _ 74 (0, 0) hc]; rfl, by rw [cell_of_row w g 1 _ 74 (0, 0) hc]; rfl, by rw [cell_of_row w g 2 _ 74 (0, 0) hc]; rfl, frozen_of_row w g 1 _ 74 hc, frozen_of_row w g 2 _ 74 hc⟩
theorem cur_set2 {w : World} {g : Nat} {a : Option Addr} {len cap i : Nat} {h : Int} (hc : CurAt w g a len cap ⟨i, h⟩) (m : Int) : CurAt (w.setCell ⟨g, 2, none⟩ (.int .i64 m)) g a len cap ⟨i, m⟩ := by
  unfold CurAt at hc ⊢
  rw [heap_setCell_same w g 2 _ 74 _ hc]; rfl
theorem cur_set1 {w : World} {g : Nat} {a : Option Addr} {len cap i : Nat} {h : Int} (hc : CurAt w g a len cap ⟨i, h⟩) (k : Nat) (x : Int) (hx : x = (k : Int)) : CurAt (w.setCell ⟨g, 1, none⟩ (.int .i64 x)) g a len cap ⟨k, h⟩ := by
  unfold CurAt at hc ⊢
  rw [heap_setCell_same w g 1 _ 74 _ hc, hx]; rfl
theorem i64_and255 (n : Int) : bits .and .i64 n 255 = n % 256 := by
  have h255 : (BitVec.ofInt 64 255).toNat = 2 ^ 8 - 1 := by decide
  have key : (BitVec.ofInt 64 n &&& BitVec.ofInt 64 255).toNat = (n % ((2 ^ 64 : Nat) : Int)).toNat % 2 ^ 8 := by
    rw [BitVec.toNat_and, BitVec.toNat_ofInt, h255, Nat.and_two_pow_sub_one_eq_mod]
  show IntKind.i64.wrap ((BitVec.ofInt 64 n &&& BitVec.ofInt 64 255).toNat : Nat) = n % 256
  rw [key, IntKind.wrap_i64]
  omega
theorem i64_and30 (n : Int) : bits .and .i64 n 1073741823 = n % 1073741824 := by
  have h255 : (BitVec.ofInt 64 1073741823).toNat = 2 ^ 30 - 1 := by decide
  have key : (BitVec.ofInt 64 n &&& BitVec.ofInt 64 1073741823).toNat = (n % ((2 ^ 64 : Nat) : Int)).toNat % 2 ^ 30 := by
    rw [BitVec.toNat_and, BitVec.toNat_ofInt, h255, Nat.and_two_pow_sub_one_eq_mod]
  show IntKind.i64.wrap ((BitVec.ofInt 64 n &&& BitVec.ofInt 64 1073741823).toNat : Nat) = n % 1073741824
  rw [key, IntKind.wrap_i64]
  omega
def mixF (h : Int) : Int := wrap64 (wrap64 (h * 6364136223846793005) + 1442695040888963407)
def xF (m : Int) : Int := bits BinOp.xor IntKind.i64 (m / 8589934592) (m / 35184372088832) % 256
/-- What l1Byte tells, and the state behind it. -/
def byteV (L : List UInt8) (s : St) : Int := if h : s.i < L.length then (xF (mixF s.h) + (L[s.i].toNat : Int)) % 256 else xF (mixF s.h)
def byteN (L : List UInt8) (s : St) : St := ⟨if s.i < L.length then s.i + 1 else s.i, mixF s.h⟩
theorem byteV_bound (L : List UInt8) (s : St) : 0 ≤ byteV L s ∧ byteV L s < 256 := by
  unfold byteV xF; split <;> omega
theorem ret_i64 {a b : Int} (h : a = b) : Ending.returned (.int .i64 a) = .returned (.int .i64 b) := by rw [h]
section
attribute [local go_sem] i64_and255
end
/-- What l1Below tells, and the state behind it. -/
def belowV (L : List UInt8) (s : St) (n : Int) : Int :=
  if n ≤ 0 then 0 else if n ≤ 256 then byteV L s % n
  else (byteV L s * 16777216 + byteV L (byteN L s) * 65536 + byteV L (byteN L (byteN L s)) * 256 + byteV L (byteN L (byteN L (byteN L s)))) % n
def belowN (L : List UInt8) (s : St) (n : Int) : St :=
  if n ≤ 0 then s else if n ≤ 256 then byteN L s else byteN L (byteN L (byteN L (byteN L s)))
theorem belowV_bound (L : List UInt8) (s : St) (n : Int) (h : 0 < n) : 0 ≤ belowV L s n ∧ belowV L s n < n := by
  unfold belowV
  rw [if_neg (by omega)]
  split <;> exact ⟨Int.emod_nonneg _ (by omega), Int.emod_lt_of_pos _ h⟩
end Go.Proofs.Ytaeokecodejpdaa
