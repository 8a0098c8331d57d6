/- What laws.big, laws.at and laws.fresh answer of a drawn code, as far as FnWal asks. Conditions: a code of at most 2 to the 20 bytes. -/
import Derived.Test.YtdpjlfgfacjfeaaDoorCur
import Derived.Deep.AppendLies
namespace Go.Proofs.YtdpjlfgfacjfeaaDoor
open Go.RowKit
open Num
set_option linter.unusedVariables false
theorem code_below {w w' : World} {a : Option Addr} {L : List UInt8} (h : CodeAt w w.heap.size a L) (hb : Below w.heap.size w w') : CodeAt w' w'.heap.size a L := by
  intro j hj
  obtain ⟨b, off, ha, hne, hc⟩ := h j hj
  have hlt : b < w.heap.size := World.block_lt_of_cell? w _ hc
  exact ⟨b, off, ha, by have := hb.size; omega, by rw [hb.cell (p := ⟨b, off + j, none⟩) hlt]; exact hc⟩
set_option maxHeartbeats 400000 in
set_option maxRecDepth 100000 in
theorem big_any (a : Option Addr) (len cap : Nat) (w : World) (hm : len ≤ 9223372036854775807) :
    Calls Tryd.prog 6 #[.slice a len cap] w fun e w' => e = .returned (.bool (decide ((1048576 : Int) < (len : Int)))) ∧ w' = w := by
  go_enter Tryd.func6, Tryd.ntmps6
  go_wp2
  go_ret
  exact ⟨rfl, rfl⟩
/-- Byte i of a code, or one that follows from it. -/
def atV (L : List UInt8) (i : Nat) : Int := if h : i < L.length then (L[i].toNat : Int) else ((i : Int) * 37 + (L.length : Int) * 11) % 256
theorem atV_bound (L : List UInt8) (i : Nat) : 0 ≤ atV L i ∧ atV L i < 256 := by
  unfold atV
  split
  · have := L[i].toNat_lt; omega
  · omega
set_option maxHeartbeats 400000 in
set_option maxRecDepth 100000 in
theorem at_any (a : Option Addr) (L : List UInt8) (cap : Nat) (i : Nat) (w : World) (hl : CodeAt w w.heap.size a L) (hlen : L.length ≤ 1048576) (hi : i ≤ 1000) :
    Calls Tryd.prog 8 #[.slice a L.length cap, .int .i64 (i : Int)] w fun e w' => e = .returned (.int .i64 (atV L i)) ∧ w' = w := by
  by_cases h : i < L.length
  · obtain ⟨b, off, rfl, _, hc⟩ := hl i h
    have HV : Hid (atV L i = (L[i].toNat : Int)) := by show _ = _; unfold atV; rw [dif_pos h]
    obtain ⟨c, hcE⟩ : ∃ c, L[i] = c := ⟨_, rfl⟩
    rw [hcE] at hc HV
    have hb : (c.toNat : Int) < 256 := by have := c.toNat_lt; omega
    have hlt : (i : Int) < (L.length : Int) := by omega
    clear hl hcE h
    go_enter Tryd.func8, Tryd.ntmps8
    go_wp2
    go_ret
    exact ⟨by rw [HV.out]; rfl, rfl⟩
  · have HV : Hid (atV L i = ((i : Int) * 37 + (L.length : Int) * 11) % 256) := by show _ = _; unfold atV; rw [dif_neg h]
    have hlt : ¬ (i : Int) < (L.length : Int) := by omega
    have hm : ((i : Int) * 37 + (L.length : Int) * 11).tmod 256 = ((i : Int) * 37 + (L.length : Int) * 11) % 256 := Int.tmod_eq_emod_of_nonneg (by omega)
    clear hl h
    go_enter Tryd.func8, Tryd.ntmps8
    go_wp2
    go_ret
    exact ⟨by rw [HV.out]; rfl, rfl⟩
theorem info5g : ∃ i, Tryd.prog.info? 5 = some i ∧ i.zero = some (.int .u8 0) ∧ i.size = 1 ∧ i.bytes = 1 :=
  info_parts (by kernel_rfl)
set_option maxHeartbeats 1600000 in
set_option maxRecDepth 100000 in
theorem fresh_any (a : Option Addr) (L : List UInt8) (cap z : Nat) (w : World) (hz : z ≤ 5) (hl : CodeAt w w.heap.size a L) (hlen : L.length ≤ 1048576) :
    Calls Tryd.prog 7 #[.slice a L.length cap, .int .i64 (z : Int)] w fun e w' => ∃ (g n cap' : Nat), e = .returned (.slice (some ⟨g, 0, none⟩) (n + 1) cap') ∧ n + 1 ≤ cap' ∧ Hid (w'.cell? ⟨g, 0, none⟩ = some (.int .u8 (z : Int))) ∧ Hid (Below w.heap.size w w') := by
  obtain ⟨i0, hinf, hz0, hz1, hz2⟩ := info5g
  have HL : Hid (CodeAt w w.heap.size a L) := hl
  clear hl
  obtain ⟨zb, hzb⟩ : ∃ zb : UInt8, UInt8.ofNat z = zb := ⟨_, rfl⟩
  have hzn : (zb.toNat : Int) = (z : Int) := by rw [← hzb]; simp; omega
  have hzw : (z : Int) % 256 = (z : Int) := by omega
  clear hzb
  have HO0 : Hid (World.ownsRow (w.alloc (.cells #[.int .u8 (z : Int)] 5)) w.heap.size 5 1 (.slice (some ⟨w.heap.size, 0, none⟩) 1 1) 1 (([zb] : List UInt8).map u8v)) := ⟨rfl, .inr ⟨w.heap.size, 1, #[.int .u8 (z : Int)], rfl, Nat.le_refl _, heap_alloc_new _ _, Nat.le_refl _, by decide, rfl, by simp [u8v, hzn]⟩⟩
  have HZN : Hid ((zb.toNat : Int) = (z : Int)) := hzn
  clear hzn
  go_enter Tryd.func7, Tryd.ntmps7
  go_wp2
  go_loopw [6, 5] (fun iv ov wr => ∃ (k : Nat) (q : Value) (cs : List UInt8), k ≤ L.length ∧ k ≤ 600 ∧ iv = .int .i64 k ∧ q = ov ∧ cs.length = k ∧ Hid (wr.ownsRow w.heap.size 5 1 q (k + 1) ((zb :: cs).map u8v)) ∧ Hid (Below w.heap.size w wr)) (fun iv _ _ => L.length - (intOf iv).toNat)
  case atStart => exact ⟨0, _, [], Nat.zero_le _, by omega, rfl, rfl, rfl, HO0, (Below.refl _ _).alloc (Nat.le_refl _) _⟩
  case round =>
    obtain ⟨k, q, cs, hk, hk6, rfl, rfl, hcs, HO, HB⟩ := hrel
    have done : Hid (∃ (g n cap' : Nat), q = .slice (some ⟨g, 0, none⟩) (n + 1) cap' ∧ n + 1 ≤ cap' ∧ Hid (wr.cell? ⟨g, 0, none⟩ = some (.int .u8 (z : Int))) ∧ Hid (Below w.heap.size w wr)) := by
      show ∃ _, _
      rcases HO.out.2 with ⟨_, h⟩ | ⟨g, cap, cur, rfl, hB, hg, hnc, hcm, _⟩
      · omega
      · have hc := HO.out.cellAt 0 (by omega)
        refine ⟨g, k, cap, rfl, hnc, ?_, HB⟩
        show _ = _
        rw [hc]
        simp [u8v, HZN.out]
    by_cases hlt : k < L.length
    · have hltz : (k : Int) < (L.length : Int) := by omega
      by_cases h6 : k < 600
      · have h6z : (k : Int) < 600 := by omega
        obtain ⟨b, off, rfl, hne, hc⟩ := HL.out k hlt
        have hc' := hc
        rw [← HB.out.cell (p := ⟨b, off + k, none⟩) (World.block_lt_of_cell? w _ hc)] at hc'
        obtain ⟨c, hcE⟩ : ∃ c, L[k] = c := ⟨_, rfl⟩
        rw [hcE] at hc'
        have hb : (c.toNat : Int) < 256 := by have := c.toNat_lt; omega
        obtain ⟨r, hr⟩ : ∃ r, (k : Int).tmod 7 = r := ⟨_, rfl⟩
        have hr' : r = (k : Int) % 7 := by rw [← hr]; exact Int.tmod_eq_emod_of_nonneg (by omega)
        have hr0 : 0 ≤ r := by omega
        have hr1 : r ≤ 6 := by omega
        obtain ⟨y, hy⟩ : ∃ y, (z : Int) * (r + 1) = y := ⟨_, rfl⟩
        have hy0 : 0 ≤ y := by rw [← hy]; exact Int.mul_nonneg (by omega) (by omega)
        have hy1 : y ≤ 35 := by
          have := Int.mul_le_mul (show (z : Int) ≤ 5 from by omega) (show r + 1 ≤ 7 from by omega) (by omega) (by omega)
          omega
        clear hr'
        have hx0 : 0 ≤ ((c.toNat : Int) * 3 + y) % 256 := by omega
        have hx1 : ((c.toNat : Int) * 3 + y) % 256 < 256 := by omega
        have HC : Hid (_) := one_cell wr _ hx0 hx1
        have HO1 : Hid (World.ownsRow (wr.alloc (.cells #[.int .u8 (((c.toNat : Int) * 3 + y) % 256)] 5)) w.heap.size 5 1 q (k + 1) ((zb :: cs).map u8v)) := World.ownsRow.alloc HO.out _
        have hsz : w.heap.size ≤ wr.heap.size := HB.out.size
        clear hc hcE done hx0 hx1
        go_wp2_with (at_builtin; refine wpList_append_own _ rfl _ _ 22 rfl w.heap.size 5 i0 (.int .u8 0) 1 1 Tryd.underlying22 hinf hz0 hz1 hz2 rfl (by decide) _ _ _ rfl HO1.out ⟨wr.heap.size, 0, none⟩ 1 1 ([UInt8.ofNat (((c.toNat : Int) * 3 + y) % 256).toNat].map u8v) rfl rfl HC.out (u8v_one _) (by unfold maxLen; omega) (by omega) (by simp; omega) ?_)
        intro v' w1 hown' hgrow _
        have HO2 : Hid (w1.ownsRow w.heap.size 5 1 v' (k + 1 + 1) ((zb :: (cs ++ [UInt8.ofNat (((c.toNat : Int) * 3 + y) % 256).toNat])).map u8v)) := own_snoc (cs := zb :: cs) hown'
        have HB2 : Hid (Below w.heap.size w w1) := (HB.out.alloc hsz _).grown hgrow (by simp; omega) (fun j hj => (HO.out.lt j hj).1)
        clear hown' hgrow HC HO1 HO
        go_wp2
        go_roundw
        case rel =>
          have R : ∃ (k' : Nat) (q' : Value) (cs' : List UInt8), k' ≤ L.length ∧ k' ≤ 600 ∧ Value.int .i64 ((k : Int) + 1) = .int .i64 k' ∧ q' = v' ∧ cs'.length = k' ∧ Hid (w1.ownsRow w.heap.size 5 1 q' (k' + 1) ((zb :: cs').map u8v)) ∧ Hid (Below w.heap.size w w1) := ⟨k + 1, v', _, by omega, by omega, by go_num, rfl, by rw [List.length_append, hcs]; rfl, HO2, HB2⟩
          first | exact R | ((repeat apply Exists.intro); exact ⟨R, rfl⟩)
        case measure => simp [intOf]; omega
      · have h6z : ¬ (k : Int) < 600 := by omega
        obtain ⟨g, n, cap', rfl, H0, H1, H2⟩ := done.out
        go_wp2
        go_ret
        exact ⟨g, n, cap', rfl, H0, H1, H2⟩
    · have hltz : ¬ (k : Int) < (L.length : Int) := by omega
      obtain ⟨g, n, cap', rfl, H0, H1, H2⟩ := done.out
      go_wp2
      go_ret
      exact ⟨g, n, cap', rfl, H0, H1, H2⟩
end Go.Proofs.YtdpjlfgfacjfeaaDoor
