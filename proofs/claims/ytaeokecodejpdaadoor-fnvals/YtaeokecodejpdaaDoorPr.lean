/- What the two Proposer answer; old memory stays. Conditions: numbers of 64 bits. -/
import Derived.Test.YtaeokecodejpdaaDoorOk
namespace Go.Proofs.YtaeokecodejpdaaDoor
open Go.RowKit
open Num
set_option linter.unusedVariables false
theorem turn_no {l : List V} {h r : Int} (hh : vOk l = false ∨ h < 0 ∨ r < 0) : turn l h r = 0 := by
  unfold turn
  rcases hh with hh | hh | hh
  · rw [hh]; rfl
  · rw [show decide (0 ≤ h) = false from by simp; omega]; simp
  · rw [show decide (0 ≤ r) = false from by simp; omega]; simp
theorem turn_yes {l : List V} {h r : Int} (h1 : vOk l = true) (h2 : 0 ≤ h) (h3 : 0 ≤ r) (k : Nat) (hk : k < l.length) (e : (h % l.length + r % l.length) % l.length = (k : Int)) : turn l h r = l[k].i := by
  unfold turn
  rw [h1, e, Int.toNat_natCast, getD_at hk]; simp [h2, h3]
set_option maxHeartbeats 400000 in
theorem impl_turn (a : Option Addr) (l : List V) (cap : Nat) (h r : Int) (w : World) (hl : VO w a l) (hlen : l.length ≤ 9223372036854775807) (hh : h ≤ 9223372036854775807) (hr : r ≤ 9223372036854775807) :
    Calls Tryd.prog 14 #[.slice a l.length cap, .int .i64 h, .int .i64 r] w fun e w' => e = .returned (.int .i64 (turn l h r)) ∧ Below w.heap.size w w' := by
  have kO := impl_ok a l cap w hl hlen
  have HL : Hid (VO w a l) := hl
  clear hl
  rcases hO : vOk l with _ | _
  · have HE : Hid (turn l h r = 0) := turn_no (.inl hO)
    rw [hO] at kO
    clear hO
    go_enter Tryd.func14, Tryd.ntmps14
    go_wp2_with fail
    refine kO.mono ?_
    rintro e w1 ⟨rfl, hb1⟩
    go_wp2
    go_ret
    exact ⟨by rw [HE.out]; rfl, hb1⟩
  have HK : Hid (vOk l = true) := hO
  rw [hO] at kO
  by_cases h1 : h < 0
  · have HE : Hid (turn l h r = 0) := turn_no (.inr (.inl h1))
    clear hO
    go_enter Tryd.func14, Tryd.ntmps14
    go_wp2_with fail
    refine kO.mono ?_
    rintro e w1 ⟨rfl, hb1⟩
    go_wp2
    go_ret
    exact ⟨by rw [HE.out]; rfl, hb1⟩
  by_cases h2 : r < 0
  · have HE : Hid (turn l h r = 0) := turn_no (.inr (.inr h2))
    clear hO
    go_enter Tryd.func14, Tryd.ntmps14
    go_wp2_with fail
    refine kO.mono ?_
    rintro e w1 ⟨rfl, hb1⟩
    go_wp2
    go_ret
    exact ⟨by rw [HE.out]; rfl, hb1⟩
  have h7 := len_ok hO
  obtain ⟨n, hn⟩ : ∃ n : Int, (l.length : Int) = n := ⟨_, rfl⟩
  have hn0 : 1 ≤ n := by omega
  have hn7 : n ≤ 7 := by omega
  obtain ⟨x, hx⟩ : ∃ x, h % n = x := ⟨_, rfl⟩
  obtain ⟨y, hy⟩ : ∃ x, r % n = x := ⟨_, rfl⟩
  have x0 : 0 ≤ x := by rw [← hx]; exact Int.emod_nonneg _ (by omega)
  have x1 : x < n := by rw [← hx]; exact Int.emod_lt_of_pos _ (by omega)
  have y0 : 0 ≤ y := by rw [← hy]; exact Int.emod_nonneg _ (by omega)
  have y1 : y < n := by rw [← hy]; exact Int.emod_lt_of_pos _ (by omega)
  obtain ⟨k, hk⟩ : ∃ k : Nat, (x + y) % n = (k : Int) := ⟨((x + y) % n).toNat, by have := Int.emod_nonneg (x + y) (show n ≠ 0 by omega); omega⟩
  have hkn : (k : Int) < n := by rw [← hk]; exact Int.emod_lt_of_pos _ (by omega)
  have hkl : k < l.length := by omega
  have HE : Hid (turn l h r = l[k].i) := turn_yes hO (by omega) (by omega) k hkl (by rw [hn, hx, hy, hk])
  have t1 : h.tmod n = x := by rw [← hx]; exact Int.tmod_eq_emod_of_nonneg (by omega)
  have t2 : r.tmod n = y := by rw [← hy]; exact Int.tmod_eq_emod_of_nonneg (by omega)
  have t3 : (x + y).tmod n = (k : Int) := by rw [← hk]; exact Int.tmod_eq_emod_of_nonneg (by omega)
  have hw : IntKind.i64.wrap (x + y) = x + y := by rw [IntKind.wrap_i64]; omega
  have hwx : IntKind.i64.wrap x = x := by rw [IntKind.wrap_i64]; omega
  have hwy : IntKind.i64.wrap y = y := by rw [IntKind.wrap_i64]; omega
  have hwk : IntKind.i64.wrap (k : Int) = (k : Int) := by rw [IntKind.wrap_i64]; omega
  have hnz : ¬ n = 0 := by omega
  rcases HL.out with h0 | ⟨b, o, rfl, hv0⟩
  · omega
  obtain ⟨v, hv⟩ : ∃ v, l[k].i = v := ⟨_, rfl⟩
  rw [hv] at HE
  have HC : Hid (∀ W, Below w.heap.size w W → W.cell? ⟨b, o + k * 2, none⟩ = some (.int .i64 v)) := fun W hb => by rw [← hv]; exact ((hv0.below hb) k hkl).1
  clear hx hy hk hv hv0 hO
  go_enter Tryd.func14, Tryd.ntmps14
  go_wp2_with fail
  refine kO.mono ?_
  rintro e w1 ⟨rfl, hb1⟩
  have hne := bel_some w1
  have c1 := fun p : Bel w1 => HC.out p.W (hb1.trans (p.h.mono hb1.size))
  go_wp2_with fail
  refine wp_region_below (by kernel_rfl) (by kernel_rfl) ?_
  repeat (go_big_quiet_step (fail))
  refine wpQuiet_nil ?_
  intro _ hw'
  obtain ⟨pq, hw''⟩ := hw'
  subst hw''
  have hb3 := hb1.trans (pq.h.mono hb1.size)
  go_wp2
  go_ret
  exact ⟨by rw [HE.out]; rfl, hb3⟩
end Go.Proofs.YtaeokecodejpdaaDoor
