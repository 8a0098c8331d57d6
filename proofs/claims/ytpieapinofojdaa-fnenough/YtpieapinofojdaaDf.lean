/- What laws.fresh, laws.has and laws.big answer, as far as FnEnough asks; old memory stays. Conditions: a code of at most 2 to the 20 bytes. -/
import Derived.Test.YtpieapinofojdaaDe
namespace Go.Proofs.Ytpieapinofojdaa
open Go.RowKit
open Num
set_option linter.unusedVariables false
theorem info5g : ∃ i, Try.prog.info? 5 = some i ∧ i.zero = some (.int .u8 0) ∧ i.size = 1 ∧ i.bytes = 1 :=
  info_parts (by kernel_rfl)
set_option maxHeartbeats 400000 in
theorem big_any (a : Option Addr) (len cap : Nat) (w : World) (hm : len ≤ 9223372036854775807) :
    Calls Try.prog 11 #[.slice a len cap] w fun e w' => e = .returned (.bool (decide ((1048576 : Int) < (len : Int)))) ∧ w' = w := by
  go_enter Try.func11, Try.ntmps11
  go_wp2
  go_ret
  exact ⟨rfl, rfl⟩
theorem code_below {w w' : World} {a : Option Addr} {L : List UInt8} (h : CodeAt w w.heap.size a L) (hb : Below w.heap.size w w') : CodeAt w' w'.heap.size a L := by
  intro j hj
  obtain ⟨b, off, ha, hne, hc⟩ := h j hj
  have hlt : b < w.heap.size := World.block_lt_of_cell? w _ hc
  exact ⟨b, off, ha, by have := hb.size; omega, by rw [hb.cell (p := ⟨b, off + j, none⟩) hlt]; exact hc⟩
set_option maxHeartbeats 800000 in
set_option maxRecDepth 100000 in
theorem fresh_any (a : Option Addr) (L : List UInt8) (cap : Nat) (w : World) (hl : CodeAt w w.heap.size a L) (hlen : L.length ≤ 1048576) :
    Calls Try.prog 13 #[.slice a L.length cap, .int .i64 1] w fun e w' => ∃ (a' : Option Addr) (L' : List UInt8) (cap' : Nat), e = .returned (.slice a' L'.length cap') ∧ Hid (CodeAt w' w'.heap.size a' L') ∧ Hid (L'.length ≤ 1048576) ∧ Hid (Below w.heap.size w w') := by
  obtain ⟨i0, hinf, hz0, hz1, hz2⟩ := info5g
  have HL : Hid (CodeAt w w.heap.size a L) := hl
  clear hl
  go_enter Try.func13, Try.ntmps13
  go_wp2
  have HO0 : Hid (World.ownsRow (w.alloc (.cells #[.int .u8 1] 5)) w.heap.size 5 1 (.slice (some ⟨w.heap.size, 0, none⟩) 1 1) 1 (([1] : List UInt8).map u8v)) := ⟨rfl, .inr ⟨w.heap.size, 1, #[.int .u8 1], rfl, Nat.le_refl _, heap_alloc_new _ _, Nat.le_refl _, by decide, rfl, rfl⟩⟩
  go_loopw [6, 5] (fun iv ov wr => ∃ (k : Nat) (q : Value) (cs : List UInt8), k ≤ L.length ∧ k ≤ 600 ∧ iv = .int .i64 k ∧ q = ov ∧ cs.length = k + 1 ∧ Hid (wr.ownsRow w.heap.size 5 1 q (k + 1) (cs.map u8v)) ∧ Hid (Below w.heap.size w wr)) (fun iv _ _ => L.length - (intOf iv).toNat)
  case atStart => exact ⟨0, _, [1], Nat.zero_le _, by omega, rfl, rfl, rfl, HO0, (Below.refl _ _).alloc (Nat.le_refl _) _⟩
  case round =>
    obtain ⟨k, q, cs, hk, hk6, rfl, rfl, hcs, HO, HB⟩ := hrel
    have done : Hid (∃ (a' : Option Addr) (L' : List UInt8) (cap' : Nat), q = .slice a' L'.length cap' ∧ Hid (CodeAt wr wr.heap.size a' L') ∧ Hid (L'.length ≤ 1048576) ∧ Hid (Below w.heap.size w wr)) := by
      show ∃ _, _
      rcases HO.out.2 with ⟨_, h⟩ | ⟨g, cap, cur, rfl, hB, hg, hnc, hcm, _⟩
      · omega
      · refine ⟨some ⟨g, 0, none⟩, cs, cap, by rw [hcs], fun j hj => ?_, by show _ ≤ _; omega, HB⟩
        have hc := HO.out.cellAt j (by omega)
        refine ⟨g, 0, rfl, ?_, ?_⟩
        · have := (Array.getElem?_eq_some_iff.1 hg).1; omega
        · rw [Nat.zero_add, hc]
          simp [u8v, hj]
    by_cases hlt : k < L.length
    · have hltz : (k : Int) < (L.length : Int) := by omega
      by_cases h6 : k < 600
      · have h6z : (k : Int) < 600 := by omega
        obtain ⟨b, off, rfl, hne, hc⟩ := HL.out k hlt
        have hc' := hc
        rw [← HB.out.cell (p := ⟨b, off + k, none⟩) (World.block_lt_of_cell? w _ hc)] at hc'
        obtain ⟨c, hcE⟩ : ∃ c, L[k] = c := ⟨_, rfl⟩
        rw [hcE] at hc'
        have hb : (c.toNat : Int) < 256 := by have := c.toNat_lt; omega
        have hx0 : 0 ≤ ((c.toNat : Int) * 3 + ((k : Int) % 7 + 1)) % 256 := by omega
        have hx1 : ((c.toNat : Int) * 3 + ((k : Int) % 7 + 1)) % 256 < 256 := by omega
        have HC : Hid (_) := one_cell wr _ hx0 hx1
        have HO1 : Hid (World.ownsRow (wr.alloc (.cells #[.int .u8 (((c.toNat : Int) * 3 + ((k : Int) % 7 + 1)) % 256)] 5)) w.heap.size 5 1 q (k + 1) (cs.map u8v)) := World.ownsRow.alloc HO.out _
        have hsz : w.heap.size ≤ wr.heap.size := HB.out.size
        clear hc hcE done hx0 hx1
        go_wp2_with (at_builtin; refine wpList_append_own _ rfl _ _ 22 rfl w.heap.size 5 i0 (.int .u8 0) 1 1 Try.underlying22 hinf hz0 hz1 hz2 rfl (by decide) _ _ _ rfl HO1.out ⟨wr.heap.size, 0, none⟩ 1 1 ([UInt8.ofNat (((c.toNat : Int) * 3 + ((k : Int) % 7 + 1)) % 256).toNat].map u8v) rfl rfl HC.out (u8v_one _) (by unfold maxLen; omega) (by omega) (by simp; omega) ?_)
        intro v' w1 hown' hgrow _
        have HO2 : Hid (w1.ownsRow w.heap.size 5 1 v' (k + 1 + 1) ((cs ++ [UInt8.ofNat (((c.toNat : Int) * 3 + ((k : Int) % 7 + 1)) % 256).toNat]).map u8v)) := own_snoc hown'
        have HB2 : Hid (Below w.heap.size w w1) := (HB.out.alloc hsz _).grown hgrow (by simp; omega) (fun j hj => (HO.out.lt j hj).1)
        clear hown' hgrow HC HO1 HO
        go_wp2
        go_roundw
        case rel =>
          have R : ∃ (k' : Nat) (q' : Value) (cs' : List UInt8), k' ≤ L.length ∧ k' ≤ 600 ∧ Value.int .i64 ((k : Int) + 1) = .int .i64 k' ∧ q' = v' ∧ cs'.length = k' + 1 ∧ Hid (w1.ownsRow w.heap.size 5 1 q' (k' + 1) (cs'.map u8v)) ∧ Hid (Below w.heap.size w w1) := ⟨k + 1, v', _, by omega, by omega, by go_num, rfl, by simp; omega, HO2, HB2⟩
          first | exact R | ((repeat apply Exists.intro); exact ⟨R, rfl⟩)
        case measure => simp [intOf]; omega
      · have h6z : ¬ (k : Int) < 600 := by omega
        obtain ⟨a', L', cap', rfl, H1, H2, H3⟩ := done.out
        go_wp2
        go_ret
        exact ⟨a', L', ⟨cap', rfl⟩, H1, H2, H3⟩
    · have hltz : ¬ (k : Int) < (L.length : Int) := by omega
      obtain ⟨a', L', cap', rfl, H1, H2, H3⟩ := done.out
      go_wp2
      go_ret
      exact ⟨a', L', ⟨cap', rfl⟩, H1, H2, H3⟩
set_option maxHeartbeats 400000 in
theorem laws_has (a : Option Addr) (l : List Int) (cap : Nat) (x : Int) (w : World) (hl : Nums w a l) (hlen : l.length ≤ 9223372036854775807) :
    Calls Try.prog 18 #[.slice a l.length cap, .int .i64 x] w fun e w' => e = .returned (.bool (hasI l x)) ∧ w' = w := by
  have HL : Hid (Nums w a l) := hl
  clear hl
  go_enter Try.func18, Try.ntmps18
  go_wp2
  go_loop [5] (fun iv => ∃ k : Nat, k ≤ l.length ∧ iv = .int .i64 k ∧ Hid (hasI (l.take k) x = false)) (fun iv => l.length - (intOf iv).toNat)
  case atStart => exact ⟨0, Nat.zero_le _, rfl, by show _ = _; simp [hasI]⟩
  case round =>
    obtain ⟨k, hk, rfl, HA⟩ := hrel
    by_cases hlt : k < l.length
    · have hltz : (k : Int) < (l.length : Int) := by omega
      rcases HL.out with h0 | ⟨b, o, rfl, hv0⟩
      · omega
      have c1 := hv0 k hlt
      obtain ⟨v, hvE⟩ : ∃ v, l[k] = v := ⟨_, rfl⟩
      rw [hvE] at c1
      by_cases he : v = x
      · have HF : Hid (hasI l x = true) := contains_at hlt (hvE.trans he)
        clear hvE hv0
        go_wp2
        go_ret
        exact ⟨by rw [HF.out]; rfl, rfl⟩
      · have HN : Hid (hasI (l.take (k + 1)) x = false) := contains_snoc hlt HA.out (by rw [hvE]; exact he)
        clear hvE hv0
        go_wp2
        go_round
        case rel => exact ⟨k + 1, by omega, by go_num, HN⟩
        case measure => simp [intOf]; omega
    · have hltz : ¬ (k : Int) < (l.length : Int) := by omega
      have HF : Hid (hasI l x = false) := contains_take_all HA.out (by omega)
      go_wp2
      go_ret
      exact ⟨by rw [HF.out]; rfl, rfl⟩
end Go.Proofs.Ytpieapinofojdaa
