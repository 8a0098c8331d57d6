/- What the laws' helpers toIntS and eqIntS answer; old memory stays. Conditions: rows that a machine can hold. -/
import Derived.Test.YtpieapinofojdaaVl
namespace Go.Proofs.Ytpieapinofojdaa
open Go.RowKit
open Num
set_option linter.unusedVariables false
theorem info3f : ∃ i, Try.prog.info? 3 = some i ∧ i.zero = some (.int .i64 0) ∧ i.size = 1 ∧ i.bytes = 8 :=
  info_parts (by kernel_rfl)
theorem IAt.snoc {w : World} {b o : Nat} {l : List Int} {v : Int} (h : IAt w b o l) (h1 : (w.cell? ⟨b, o + l.length, none⟩).isSome = true) :
    IAt (w.setCell ⟨b, o + l.length, none⟩ (.int .i64 v)) b o (l ++ [v]) := fun j hj => by
  by_cases hlt : j < l.length
  · rw [World.cell?_setCell_other _ ⟨b, o + l.length, none⟩ ⟨b, o + j, none⟩ _ (fun e => by injection e; omega), h j hlt]
    simp [hlt]
  · have : j = l.length := by simp at hj; omega
    subst this
    rw [World.cell?_setCell_same' _ _ _ h1]
    simp
set_option maxHeartbeats 400000 in
theorem toIntS_any (a : Option Addr) (l : List Int) (cap : Nat) (w : World) (hl : Nums w a l) (hlen : l.length ≤ 1048576) :
    Calls Try.prog 24 #[.slice a l.length cap] w fun e w' => e = .returned (.slice (some ⟨w.heap.size, 0, none⟩) l.length l.length) ∧ IAt w' w.heap.size 0 l ∧ Below w.heap.size w w' := by
  obtain ⟨i0, hi, hz0, hz1, hz2⟩ := info3f
  have HL : Hid (Nums w a l) := hl
  clear hl
  go_enter Try.func24, Try.ntmps24
  go_wp2_with (at_make; refine wpList_make_full _ rfl _ _ 25 rfl w.heap.size 3 i0 (.int .i64 0) 1 Try.underlying25 hi hz0 hz1 _ _ _ _ l.length rfl rfl rfl rfl (by rw [hz2]; omega) (by unfold maxLen; omega) (Nat.le_refl _) ?_; intro w1 hown hgr)
  have hroom : Room w1 w.heap.size 0 l.length := fun j hj => by
    rw [Nat.zero_add]
    refine ⟨?_, hown.frozenAt j⟩
    rw [hown.cellAt j (by omega)]
    simp [madeCells]
    exact hj
  have hb1 := below_of_grown hgr
  clear hown hgr
  go_loopw [4] (fun iv wr => ∃ k : Nat, k ≤ l.length ∧ iv = .int .i64 k ∧ Hid (IAt wr w.heap.size 0 (l.take k)) ∧ Hid (Room wr w.heap.size 0 l.length) ∧ Below w.heap.size w wr) (fun iv _ => l.length - (intOf iv).toNat)
  case atStart => exact ⟨0, Nat.zero_le _, rfl, fun j hj => by simp at hj, hroom, hb1⟩
  case round =>
    clear hroom hb1 w1
    obtain ⟨k, hk, rfl, HA, HR, hb⟩ := hrel
    by_cases hlt : k < l.length
    · have hltz : (k : Int) < (l.length : Int) := by omega
      rcases HL.out with h0 | ⟨b, o, rfl, hv0⟩
      · omega
      have c1 := (hv0.below hb) k hlt
      obtain ⟨v, hvE⟩ : ∃ v, l[k] = v := ⟨_, rfl⟩
      rw [hvE] at c1
      obtain ⟨s1, f1⟩ := HR.out k hlt
      obtain ⟨u1, e1⟩ := Option.isSome_iff_exists.1 s1
      rw [Nat.zero_add] at e1 f1
      clear s1 hv0
      go_wp2
      go_roundw
      case rel =>
        refine ⟨k + 1, by omega, by go_num, ?_, HR.out.set _ _ _, hb.setCell (p := ⟨w.heap.size, k, none⟩) (Nat.le_refl _) _⟩
        show IAt _ _ _ _
        have hn := HA.out.snoc (v := v) (by rw [List.length_take, Nat.min_eq_left (by omega), Nat.zero_add, e1]; rfl)
        rw [List.length_take, Nat.min_eq_left (by omega), Nat.zero_add, ← hvE, ← List.take_succ_eq_append_getElem hlt, hvE] at hn
        exact hn
      case measure => simp [intOf]; omega
    · have hltz : ¬ (k : Int) < (l.length : Int) := by omega
      have hkl : k = l.length := by omega
      have HA' : Hid (IAt wr w.heap.size 0 l) := by have := HA.out; rw [hkl, List.take_length] at this; exact this
      clear hkl
      go_wp2
      go_ret
      exact ⟨rfl, HA'.out, hb⟩
set_option maxHeartbeats 400000 in
theorem eqIntS_same (a a' : Option Addr) (l : List Int) (cap cap' : Nat) (w : World) (hl : Nums w a l) (hl' : Nums w a' l) (h1 : l.length ≤ 1099511627776) :
    Calls Try.prog 25 #[.slice a l.length cap, .slice a' l.length cap'] w fun e w' => e = .returned (.bool true) ∧ Below w.heap.size w w' := by
  have HL : Hid (Nums w a l) := hl
  have HL' : Hid (Nums w a' l) := hl'
  clear hl hl'
  go_enter Try.func25, Try.ntmps25
  go_wp2
  go_loopw [5] (fun iv wr => ∃ k : Nat, k ≤ l.length ∧ iv = .int .i64 k ∧ Below w.heap.size w wr) (fun iv _ => l.length - (intOf iv).toNat)
  case atStart => exact ⟨0, Nat.zero_le _, rfl, Below.refl _ _⟩
  case round =>
    obtain ⟨k, hk, rfl, hb⟩ := hrel
    by_cases hlt : k < l.length
    · have hltz : (k : Int) < (l.length : Int) := by omega
      rcases HL.out with h0 | ⟨b, o, rfl, hv0⟩
      · omega
      rcases HL'.out with h0 | ⟨b', o', rfl, hv0'⟩
      · omega
      have hn := bel_some wr
      obtain ⟨v, hvE⟩ : ∃ v, l[k] = v := ⟨_, rfl⟩
      have c1 := fun p : Bel wr => p.cell ((hv0.below hb) k hlt)
      have c3 := fun p : Bel wr => p.cell ((hv0'.below hb) k hlt)
      rw [hvE] at c1 c3
      clear hv0 hv0' hvE
      go_wp2_with fail
      refine wp_region_below (by kernel_rfl) (by kernel_rfl) ?_
      repeat (go_big_quiet_step (fail))
      refine wpQuiet_nil ?_
      intro _ hw'
      obtain ⟨pq, hw''⟩ := hw'
      subst hw''
      have hb3 := hb.trans (pq.h.mono hb.size)
      go_wp2
      go_roundw
      case rel => exact ⟨k + 1, by omega, by go_num, hb3⟩
      case measure => simp [intOf]; omega
    · have hltz : ¬ (k : Int) < (l.length : Int) := by omega
      go_wp2
      go_ret
      exact ⟨rfl, hb⟩
end Go.Proofs.Ytpieapinofojdaa
