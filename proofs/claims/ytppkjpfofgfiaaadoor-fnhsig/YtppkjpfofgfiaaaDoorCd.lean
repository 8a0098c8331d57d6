/- A drawn code, and what laws.big and laws.at answer of it; memory stays. Conditions: a code of at most 2 to the 20 bytes. And: a text made of two bytes just laid. -/
import Derived.Test.YtppkjpfofgfiaaaDoorHs1
namespace Go.Proofs.YtppkjpfofgfiaaaDoor
open Go.RowKit
open Num
set_option linter.unusedVariables false
/-- The code's bytes lie where the slice says, in another block than g. -/
def CodeAt (w : World) (g : Nat) (a : Option Addr) (L : List UInt8) : Prop :=
  ∀ j (hj : j < L.length), ∃ b off, a = some ⟨b, off, none⟩ ∧ b ≠ g ∧ w.cell? ⟨b, off + j, none⟩ = some (.int .u8 (L[j].toNat : Int))
theorem code_below {w w' : World} {a : Option Addr} {L : List UInt8} (h : CodeAt w w.heap.size a L) (hb : Below w.heap.size w w') : CodeAt w' w'.heap.size a L := by
  intro j hj
  obtain ⟨b, off, ha, hne, hc⟩ := h j hj
  have hlt : b < w.heap.size := World.block_lt_of_cell? w _ hc
  exact ⟨b, off, ha, by have := hb.size; omega, by rw [hb.cell (p := ⟨b, off + j, none⟩) hlt]; exact hc⟩
set_option maxHeartbeats 400000 in
theorem big_any (a : Option Addr) (len cap : Nat) (w : World) (hm : len ≤ 9223372036854775807) :
    Calls Tryd.prog 10 #[.slice a len cap] w fun e w' => e = .returned (.bool (decide ((1048576 : Int) < (len : Int)))) ∧ w' = w := by
  go_enter Tryd.func10, Tryd.ntmps10
  go_wp2
  go_ret
  exact ⟨rfl, rfl⟩
/-- Byte i of a code, or one that follows from it. -/
def atV (L : List UInt8) (i : Nat) : Int := if h : i < L.length then (L[i].toNat : Int) else ((i : Int) * 37 + (L.length : Int) * 11) % 256
theorem atV_bound (L : List UInt8) (i : Nat) : 0 ≤ atV L i ∧ atV L i < 256 := by
  unfold atV
  split
  · have := L[i].toNat_lt; omega
  · omega
set_option maxHeartbeats 400000 in
theorem at_any (a : Option Addr) (L : List UInt8) (cap : Nat) (i : Nat) (w : World) (hl : CodeAt w w.heap.size a L) (hlen : L.length ≤ 1048576) (hi : i ≤ 1000) :
    Calls Tryd.prog 11 #[.slice a L.length cap, .int .i64 (i : Int)] w fun e w' => e = .returned (.int .i64 (atV L i)) ∧ w' = w := by
  by_cases h : i < L.length
  · obtain ⟨b, off, rfl, _, hc⟩ := hl i h
    have HV : Hid (atV L i = (L[i].toNat : Int)) := by show _ = _; unfold atV; rw [dif_pos h]
    obtain ⟨c, hcE⟩ : ∃ c, L[i] = c := ⟨_, rfl⟩
    rw [hcE] at hc HV
    have hb : (c.toNat : Int) < 256 := by have := c.toNat_lt; omega
    have hlt : (i : Int) < (L.length : Int) := by omega
    clear hl hcE h
    go_enter Tryd.func11, Tryd.ntmps11
    go_wp2
    go_ret
    exact ⟨by rw [HV.out]; rfl, rfl⟩
  · have HV : Hid (atV L i = ((i : Int) * 37 + (L.length : Int) * 11) % 256) := by show _ = _; unfold atV; rw [dif_neg h]
    have hlt : ¬ (i : Int) < (L.length : Int) := by omega
    have hm : ((i : Int) * 37 + (L.length : Int) * 11).tmod 256 = ((i : Int) * 37 + (L.length : Int) * 11) % 256 := Int.tmod_eq_emod_of_nonneg (by omega)
    clear hl h
    go_enter Tryd.func11, Tryd.ntmps11
    go_wp2
    go_ret
    exact ⟨by rw [HV.out]; rfl, rfl⟩
/-- 'string([]byte{a, b})': two bytes, just laid. -/
theorem run_str_two {P : Program} (w : World) (src dst e : TypeId) (hs : P.underlying src = some (.slice e)) (he : P.underlying e = some (.int .u8)) (hd : P.underlying dst = some .string) (x y : Int) (hx0 : 0 ≤ x) (hx1 : x < 256) (hy0 : 0 ≤ y) (hy1 : y < 256) :
    (convert src dst (.slice (some ⟨w.heap.size, 0, none⟩) 2 2)).run P (w.alloc (.cells #[.int .u8 x, .int .u8 y] e)) = .ok (.string ⟨#[UInt8.ofNat x.toNat, UInt8.ofNat y.toNat]⟩) (w.alloc (.cells #[.int .u8 x, .int .u8 y] e)) := by
  have e1 : ∀ z : Int, 0 ≤ z → z < 256 → z = ((UInt8.ofNat z.toNat).toNat : Int) := fun z h0 h1 => by
    have : (UInt8.ofNat z.toNat).toNat = z.toNat := by simp; omega
    rw [this]; omega
  have k := run_str_row (P := P) (w.alloc (.cells #[.int .u8 ((UInt8.ofNat x.toNat).toNat : Int), .int .u8 ((UInt8.ofNat y.toNat).toNat : Int)] e)) src dst e hs he hd w.heap.size 2 [UInt8.ofNat x.toNat, UInt8.ofNat y.toNat] [] e (0, 0) (by rw [heap_alloc_new]; rfl)
  rw [← e1 x hx0 hx1, ← e1 y hy0 hy1] at k
  exact k
end Go.Proofs.YtppkjpfofgfiaaaDoor
