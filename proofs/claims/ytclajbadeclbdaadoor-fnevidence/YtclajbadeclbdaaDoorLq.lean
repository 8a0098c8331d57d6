/- Marks, and room in a row, as the laws use them. Conditions: none of ours. -/
import Derived.Test.YtclajbadeclbdaaDoorRi
namespace Go.Proofs.YtclajbadeclbdaaDoor
open Go.RowKit
open Num
set_option linter.unusedVariables false
theorem gr_refl (w : World) (r : Option Nat) : w.grownBy w r := ⟨rfl, rfl, rfl, Nat.le_refl _, fun _ _ _ => rfl⟩
theorem gr_of_below {w w' : World} {r : Option Nat} (h : Below w.heap.size w w') : w.grownBy w' r := grown_of h
def Room (w : World) (b o n : Nat) : Prop := ∀ j, j < n → (w.cell? ⟨b, o + j, none⟩).isSome = true ∧ w.frozen? ⟨b, o + j, none⟩ = false
theorem Room.below {w w' : World} {b o n : Nat} (h : Room w b o n) (hb : Below w.heap.size w w') : Room w' b o n := fun j hj => by
  obtain ⟨h1, h2⟩ := h j hj
  obtain ⟨u, hu⟩ := Option.isSome_iff_exists.1 h1
  have hlt := World.block_lt_of_cell? w _ hu
  exact ⟨by rw [hb.cell (p := ⟨b, o + j, none⟩) hlt]; exact h1, by rw [hb.frozen (p := ⟨b, o + j, none⟩) hlt]; exact h2⟩
theorem some_set (w : World) (a x : Addr) (u : Value) (h : (w.cell? x).isSome = true) : ((w.setCell a u).cell? x).isSome = true := by
  by_cases e : x = a
  · subst e; rw [World.cell?_setCell_same' w x u h]; rfl
  · rw [World.cell?_setCell_other w a x u (fun h => e h.symm)]; exact h
theorem Room.set {w : World} {b o n : Nat} (h : Room w b o n) (g p : Nat) (u : Value) : Room (w.setCell ⟨g, p, none⟩ u) b o n := fun j hj => by
  obtain ⟨h1, h2⟩ := h j hj
  exact ⟨some_set w _ _ u h1, by rw [World.frozen?_setCell]; exact h2⟩
def mdF : Nat → Nat → ByteArray → ByteArray
  | 0, _, o => o
  | f + 1, k, o => if k = 0 then o else mdF f (k / 10) (⟨#[UInt8.ofNat (48 + k % 10)]⟩ ++ o)
/-- The mark number k. -/
def mtxt (k : Nat) : ByteArray := ⟨#[109]⟩ ++ mdF k k ⟨#[]⟩
theorem size_sing (x : UInt8) : (⟨#[x]⟩ : ByteArray).size = 1 := rfl
set_option maxHeartbeats 800000 in
set_option maxRecDepth 100000 in
theorem mtext_any (k : Nat) (hk : 1 ≤ k) (hm : k ≤ 1099511627776) (w : World) :
    Calls Tryd.prog 45 #[.int .i64 (k : Int)] w fun e w' => e = .returned (.string (mtxt k)) ∧ Below w.heap.size w w' := by
  have hk0 : ¬ (k : Int) ≤ 0 := by omega
  go_enter Tryd.func45, Tryd.ntmps45
  go_wp2
  go_loopw [0, 3] (fun kk out wr => ∃ (m f : Nat) (x : ByteArray), kk = .int .i64 m ∧ out = .string x ∧ m ≤ f ∧ x.size + m ≤ k ∧ Hid (mdF k k ⟨#[]⟩ = mdF f m x) ∧ Below w.heap.size w wr) (fun kk _ _ => (intOf kk).toNat)
  case atStart => exact ⟨k, k, ⟨#[]⟩, rfl, rfl, Nat.le_refl _, by show 0 + k ≤ k; omega, rfl, Below.refl _ _⟩
  case round =>
    obtain ⟨m, f, x, rfl, rfl, hmf, hxm, HM, hb⟩ := hrel
    by_cases hpos : 0 < m
    · obtain ⟨f', rfl⟩ : ∃ f', f = f' + 1 := ⟨f - 1, by omega⟩
      have hp' : (0 : Int) < (m : Int) := by omega
      have hr : (m : Int).tmod 10 = ((m % 10 : Nat) : Int) := by rw [Int.tmod_eq_emod_of_nonneg (by omega)]; omega
      have hq : (m : Int).tdiv 10 = ((m / 10 : Nat) : Int) := by rw [Int.tdiv_eq_ediv_of_nonneg (by omega)]; omega
      obtain ⟨r, hrr⟩ : ∃ r, m % 10 = r := ⟨_, rfl⟩
      obtain ⟨d, hd⟩ : ∃ d, m / 10 = d := ⟨_, rfl⟩
      have HS : Hid (mdF (f' + 1) m x = mdF f' d (⟨#[UInt8.ofNat (48 + r)]⟩ ++ x)) := by
        show _ = _
        conv => lhs; unfold mdF
        rw [if_neg (by omega), hrr, hd]
      rw [hrr] at hr
      rw [hd] at hq
      have hr10 : r < 10 := by omega
      have hdm : d < m := by omega
      have hcv := run_str_one (P := Tryd.prog) wr 22 9 5 Tryd.underlying22 Tryd.underlying5 Tryd.underlying9 (48 + (r : Int)) (by omega) (by omega)
      rw [show (48 + (r : Int)).toNat = 48 + r from by omega] at hcv
      clear hrr hd
      have hsz : wr.heap.size = wr.heap.size := rfl
      have hb2 := hb.alloc hb.size (.cells #[.int .u8 (48 + (r : Int))] 5)
      generalize hB : UInt8.ofNat (48 + r) = B at *
      have hs1 : (⟨#[B]⟩ : ByteArray).size = 1 := rfl
      clear hB
      go_wp2
      go_roundw
      case rel =>
        refine ⟨d, f', ⟨#[B]⟩ ++ x, rfl, rfl, by omega, ?_, ?_, hb2⟩
        · rw [ByteArray.size_append, hs1]; omega
        · rw [← HS.out]; exact HM
      case measure => simp [intOf]; omega
    · obtain rfl : m = 0 := by omega
      have HF : Hid (mtxt k = ⟨#[109]⟩ ++ x) := by
        show _ = _
        unfold mtxt
        rw [HM.out]
        cases f <;> rfl
      go_wp2
      go_ret
      exact ⟨by rw [HF.out]; rfl, hb⟩
end Go.Proofs.YtclajbadeclbdaaDoor
