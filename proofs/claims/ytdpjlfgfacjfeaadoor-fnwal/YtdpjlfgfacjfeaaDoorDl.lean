/- What spec.l13Log, l13Torn and DrawWalScan draw: texts of some size; old memory stands but for the cursor. Conditions: a code of at most 2 to the 20 bytes. -/
import Derived.Test.YtdpjlfgfacjfeaaDoorAd
import Derived.Test.YtdpjlfgfacjfeaaDoorDsv
namespace Go.Proofs.YtdpjlfgfacjfeaaDoor
open Go.RowKit
open Num
set_option linter.unusedVariables false
theorem gr_of_below {w w' : World} {r : Option Nat} (h : Below w.heap.size w w') : w.grownBy w' r := ⟨h.os, h.tape, h.output, h.size, fun k hk _ => h.block k hk⟩
set_option maxHeartbeats 1600000 in
set_option maxRecDepth 100000 in
theorem log_d (g B : Nat) (w : World) (h : DS w g B) (hB : B ≤ w.heap.size) :
    Calls Tryd.prog 36 #[.pointer (some ⟨g, 0, none⟩), .int .i64 8] w fun e w' => ∃ t : ByteArray, e = .returned (.string t) ∧ Hid (t.size ≤ 455) ∧ Hid (DS w' g B) ∧ Hid (w.grownBy w' (some g)) := by
  have kB := below_d g B 8 w h (by omega)
  clear h
  go_enter Tryd.func36, Tryd.ntmps36
  go_wp2_with fail
  refine kB.mono ?_
  rintro e w1 ⟨x, rfl, x0, x1, HD1, HG1⟩
  obtain ⟨n0, rfl⟩ : ∃ n0 : Nat, x = (n0 : Int) := ⟨x.toNat, by omega⟩
  go_wp2
  go_loopw [5, 6] (fun lv iv wr => ∃ (n : Nat) (t : ByteArray), n ≤ 7 ∧ iv = .int .i64 n ∧ lv = .string t ∧ t.size + 65 * n ≤ 455 ∧ Hid (DS wr g B) ∧ Hid (w.grownBy wr (some g))) (fun _ iv _ => (intOf iv).toNat)
  case atStart => exact ⟨n0, ⟨#[]⟩, by omega, rfl, rfl, by show 0 + 65 * n0 ≤ 455; omega, HD1, HG1⟩
  case round =>
    obtain ⟨n, t, hn, rfl, rfl, hts, HD, HG⟩ := hrel
    by_cases hlt : 0 < n
    · have hltz : (0 : Int) < (n : Int) := by omega
      have kT := text_d g B 8 wr HD.out (by omega) (by omega)
      go_wp2_with fail
      refine kT.mono ?_
      rintro e w2 ⟨x, rfl, HX, HD2, HG2⟩
      have hxs : x.size ≤ 8 := by have := HX.out; omega
      have hsz := ad_size t x
      have kA := fun W => spec_add t x W (by omega) (by omega)
      have hB2 : B ≤ w2.heap.size := Nat.le_trans hB (Nat.le_trans HG.out.size HG2.out.size)
      generalize ad t x = A at *
      go_wp2_with fail
      refine (kA _).mono ?_
      rintro e w3 ⟨rfl, b3⟩
      have HD3 : Hid (DS w3 g B) := HD2.out.below (b3.mono hB2)
      have HG3 : Hid (w.grownBy w3 (some g)) := grown_trans (grown_trans HG.out HG2.out) (gr_of_below b3)
      obtain ⟨A, ok⟩ := A
      simp only at hsz
      have hmm : (n : Int) - 1 = ((n - 1 : Nat) : Int) := by omega
      obtain ⟨m, hm⟩ : ∃ m, n - 1 = m := ⟨_, rfl⟩
      rw [hm] at hmm
      have q1 : m < n := by omega
      have q2 : A.size + 65 * m ≤ 455 := by omega
      clear HX HD2 HG2 b3 hm hsz hts
      go_wp2
      go_roundw
      case rel => exact ⟨m, A, by omega, by rw [← hmm], rfl, q2, HD3, HG3⟩
      case measure => simp [intOf]; omega
    · have hltz : ¬ (0 : Int) < (n : Int) := by omega
      have HS : Hid (t.size ≤ 455) := by show _ ≤ _; omega
      go_wp2
      go_ret
      exact ⟨t, rfl, HS, HD, HG⟩
set_option maxHeartbeats 1600000 in
set_option maxRecDepth 100000 in
theorem torn_d (g B : Nat) (w : World) (h : DS w g B) (hB : B ≤ w.heap.size) :
    Calls Tryd.prog 24 #[.pointer (some ⟨g, 0, none⟩)] w fun e w' => ∃ t : ByteArray, e = .returned (.string t) ∧ Hid (t.size ≤ 2000) ∧ Hid (DS w' g B) ∧ Hid (w.grownBy w' (some g)) := by
  have kL := log_d g B w h hB
  clear h
  go_enter Tryd.func24, Tryd.ntmps24
  go_wp2_with fail
  refine kL.mono ?_
  rintro e w1 ⟨t, rfl, HZ, HD1, HG1⟩
  have kB := below_d g B 5 w1 HD1.out (by omega)
  have hts : t.size ≤ 455 := HZ.out
  clear HZ
  go_wp2_with fail
  refine kB.mono ?_
  rintro e w2 ⟨x, rfl, x0, x1, HD2, HG2⟩
  have HG2' : Hid (w.grownBy w2 (some g)) := grown_trans HG1.out HG2.out
  clear HD1 HG1 HG2
  rcases (show x = 0 ∨ x = 1 ∨ x = 2 ∨ (x ≠ 0 ∧ x ≠ 1 ∧ x ≠ 2) from by omega) with rfl | rfl | rfl | ⟨h0, h1, h2⟩
  · have kS := spoil_d g B t w2 HD2.out (by omega)
    go_wp2_with fail
    refine kS.mono ?_
    rintro e w3 ⟨y, rfl, HY, HD3, HG3⟩
    have HS : Hid (y.size ≤ 2000) := by have := HY.out; show _ ≤ _; omega
    have HG3' : Hid (w.grownBy w3 (some g)) := grown_trans HG2'.out HG3.out
    clear HY HG3
    go_wp2
    go_ret
    exact ⟨y, rfl, HS, HD3, HG3'⟩
  · have kT := text_d g B 9 w2 HD2.out (by omega) (by omega)
    go_wp2_with fail
    refine kT.mono ?_
    rintro e w3 ⟨y, rfl, HY, HD3, HG3⟩
    have hys : (y.size : Int) ≤ 9 := HY.out
    have HS : Hid ((t ++ y).size ≤ 2000) := by show _ ≤ _; rw [ByteArray.size_append]; omega
    have HG3' : Hid (w.grownBy w3 (some g)) := grown_trans HG2'.out HG3.out
    have hno : ¬ 9223372036854775807 < t.size + y.size := by omega
    clear HY HG3
    go_wp2
    go_ret
    exact ⟨t ++ y, rfl, HS, HD3, HG3'⟩
  · have kC := below_d g B ((t.size : Int) + 1) w2 HD2.out (by omega)
    have hwr : IntKind.i64.wrap ((t.size : Int) + 1) = (t.size : Int) + 1 := by rw [IntKind.wrap_i64]; omega
    go_wp2_with fail
    refine kC.mono ?_
    rintro e w3 ⟨y, rfl, y0, y1, HD3, HG3⟩
    obtain ⟨k, rfl⟩ : ∃ k : Nat, y = (k : Int) := ⟨y.toNat, by omega⟩
    have hk : (k : Int) ≤ (t.size : Int) := by omega
    have HS : Hid ((t.extract 0 k).size ≤ 2000) := by show _ ≤ _; rw [ByteArray.size_extract]; omega
    have HG3' : Hid (w.grownBy w3 (some g)) := grown_trans HG2'.out HG3.out
    clear HG3
    go_wp2
    go_ret
    exact ⟨_, rfl, HS, HD3, HG3'⟩
  · have e0 : (x == 0) = false := by rw [beq_eq_false_iff_ne]; exact h0
    have e1 : (x == 1) = false := by rw [beq_eq_false_iff_ne]; exact h1
    have e2 : (x == 2) = false := by rw [beq_eq_false_iff_ne]; exact h2
    have HS : Hid (t.size ≤ 2000) := by show _ ≤ _; omega
    go_wp2
    go_ret
    exact ⟨t, rfl, HS, HD2, HG2'⟩
theorem ds_at {w : World} {a : Option Addr} {L : List UInt8} {cap : Nat} (hl : CodeAt w w.heap.size a L) (hlen : L.length ≤ 1048576) (h0 : Int) :
    DS (w.alloc (.cells #[.slice a L.length cap, .int .i64 0, .int .i64 h0] 50)) w.heap.size (w.heap.size + 1) := by
  refine ⟨a, L, cap, ⟨0, h0⟩, hlen, heap_alloc_new _ _, CodeAt.kept hl (grown_alloc (grown_refl _ _) _), by omega, fun j hj => ?_⟩
  obtain ⟨b, off, e, hne, hc⟩ := hl j hj
  have := World.block_lt_of_cell? w _ hc
  exact ⟨b, off, e, by simp at this; omega⟩
set_option maxHeartbeats 1600000 in
set_option maxRecDepth 100000 in
theorem draw_wal (a : Option Addr) (L : List UInt8) (cap : Nat) (w : World) (hl : CodeAt w w.heap.size a L) (hlen : L.length ≤ 1048576) :
    Calls Tryd.prog 13 #[.slice a L.length cap] w fun e w' => ∃ t : ByteArray, e = .returned (.string t) ∧ Hid (t.size ≤ 2000) ∧ Hid (Below w.heap.size w w') := by
  have kN := new_any a L cap w hl hlen
  have HL : Hid (CodeAt w w.heap.size a L) := hl
  clear hl
  go_enter Tryd.func13, Tryd.ntmps13
  go_wp2_with fail
  refine kN.mono ?_
  rintro e w1 ⟨rfl, hw1⟩
  have HD1 : Hid (DS w1 w.heap.size (w.heap.size + 1)) := by show DS _ _ _; rw [hw1]; exact ds_at HL.out hlen _
  have HB1 : Hid (Below w.heap.size w w1) := by show Below _ _ _; rw [hw1]; exact (Below.refl _ _).alloc (Nat.le_refl _) _
  have hs1 : w.heap.size + 1 ≤ w1.heap.size := by rw [hw1]; simp
  clear hw1 HL
  have kT := torn_d w.heap.size (w.heap.size + 1) w1 HD1.out hs1
  go_wp2_with fail
  refine kT.mono ?_
  rintro e w2 ⟨t, rfl, HS, HD2, HG2⟩
  have HB2 : Hid (Below w.heap.size w w2) := HB1.out.grown HG2.out HB1.out.size (fun k e => by injection e; omega)
  clear HD1 HD2 HG2
  go_wp2
  go_ret
  exact ⟨t, rfl, HS, HB2⟩
end Go.Proofs.YtdpjlfgfacjfeaaDoor
