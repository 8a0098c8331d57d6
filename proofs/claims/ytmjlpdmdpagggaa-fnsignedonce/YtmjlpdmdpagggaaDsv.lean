/- Draws, as far as laws ask: whatever is drawn is of some size; old memory stands but for the cursor. Conditions: a code of at most 2 to the 20 bytes. -/
import Derived.Test.YtmjlpdmdpagggaaCur4
import Derived.Test.YtmjlpdmdpagggaaSpoil
namespace Go.Proofs.Ytmjlpdmdpagggaa
open Go.RowKit
open Num
set_option linter.unusedVariables false
/-- A cursor at block g over some code; both lie below B. -/
def DS (w : World) (g B : Nat) : Prop :=
  ∃ (a : Option Addr) (L : List UInt8) (cap : Nat) (s : St), L.length ≤ 1048576 ∧ CurAt w g a L.length cap s ∧ CodeAt w g a L ∧ g < B ∧ ∀ j, j < L.length → ∃ b off, a = some ⟨b, off, none⟩ ∧ b < B
theorem DS.below {w w' : World} {g B : Nat} (h : DS w g B) (hb : Below B w w') : DS w' g B := by
  obtain ⟨a, L, cap, s, h1, h2, h3, h4, h5⟩ := h
  refine ⟨a, L, cap, s, h1, ?_, fun j hj => ?_, h4, h5⟩
  · unfold CurAt at h2 ⊢
    rw [hb.block g h4]; exact h2
  · obtain ⟨b, off, e, hne, hc⟩ := h3 j hj
    obtain ⟨b', off', e', hlt⟩ := h5 j hj
    rw [e] at e'
    simp at e'
    obtain ⟨rfl, rfl⟩ := e'
    exact ⟨b, off, e, hne, by rw [hb.cell (p := ⟨b, off + j, none⟩) hlt]; exact hc⟩
theorem DS.lt {w : World} {g B : Nat} (h : DS w g B) : g < B := by
  obtain ⟨a, L, cap, s, h1, h2, h3, h4, h5⟩ := h
  exact h4
theorem DS.lt' {w : World} {g B : Nat} (h : DS w g B) : g < w.heap.size := by
  obtain ⟨a, L, cap, s, h1, h2, h3, h4, h5⟩ := h
  exact (Array.getElem?_eq_some_iff.1 h2).1
theorem below_d (g B : Nat) (n : Int) (w : World) (h : DS w g B) (hn : 0 < n) :
    Calls Try.prog 69 #[.pointer (some ⟨g, 0, none⟩), .int .i64 n] w fun e w' => ∃ x : Int, e = .returned (.int .i64 x) ∧ 0 ≤ x ∧ x < n ∧ Hid (DS w' g B) ∧ Hid (w.grownBy w' (some g)) := by
  obtain ⟨a, L, cap, s, h1, h2, h3, h4, h5⟩ := h
  refine (below_any g a L cap s n w h2 h3 h1).mono ?_
  rintro e w' ⟨rfl, hc, hg⟩
  have hb := belowV_bound L s n hn
  exact ⟨_, rfl, hb.1, hb.2, ⟨a, L, cap, _, h1, hc, h3.kept hg, h4, h5⟩, hg⟩
theorem once_d (g B : Nat) (n : Int) (w : World) (h : DS w g B) :
    Calls Try.prog 49 #[.pointer (some ⟨g, 0, none⟩), .int .i64 n] w fun e w' => ∃ x : Bool, e = .returned (.bool x) ∧ Hid (DS w' g B) ∧ Hid (w.grownBy w' (some g)) := by
  obtain ⟨a, L, cap, s, h1, h2, h3, h4, h5⟩ := h
  refine (once_any g a L cap s n w h2 h3 h1).mono ?_
  rintro e w' ⟨rfl, hc, hg⟩
  exact ⟨_, rfl, ⟨a, L, cap, _, h1, hc, h3.kept hg, h4, h5⟩, hg⟩
theorem pick_d (g gl B : Nat) (zs : List Int) (w : World) (h : DS w g B) (hz : w.heap[gl]? = some (.cells (zs.map (Value.int .i64)).toArray 3 (0, 0))) (hne : gl ≠ g) (h0 : 0 < zs.length) (hl1 : zs.length ≤ 256) :
    Calls Try.prog 70 #[.pointer (some ⟨g, 0, none⟩), .slice (some ⟨gl, 0, none⟩) zs.length zs.length] w fun e w' => ∃ x : Int, e = .returned (.int .i64 x) ∧ Hid (x ∈ zs) ∧ Hid (DS w' g B) ∧ Hid (w.grownBy w' (some g)) := by
  obtain ⟨a, L, cap, s, h1, h2, h3, h4, h5⟩ := h
  refine (pick_any g gl a L cap s zs w h2 h3 h1 hz hne h0 hl1).mono ?_
  rintro e w' ⟨rfl, hc, hg⟩
  have hb := belowV_bound L s zs.length (by omega)
  refine ⟨_, rfl, ?_, ⟨a, L, cap, _, h1, hc, h3.kept hg, h4, h5⟩, hg⟩
  show _ ∈ zs
  rw [List.getD_eq_getElem?_getD, List.getElem?_eq_getElem (show (belowV L s zs.length).toNat < zs.length by omega)]
  exact List.getElem_mem ..
theorem one_size (x : UInt8) : (⟨#[x]⟩ : ByteArray).size = 1 := rfl
theorem text_d (g B : Nat) (most : Int) (w : World) (h : DS w g B) (hm0 : 0 ≤ most) (hm1 : most ≤ 1000) :
    Calls Try.prog 71 #[.pointer (some ⟨g, 0, none⟩), .int .i64 most] w fun e w' => ∃ t : ByteArray, e = .returned (.string t) ∧ Hid ((t.size : Int) ≤ most) ∧ Hid (DS w' g B) ∧ Hid (w.grownBy w' (some g)) := by
  obtain ⟨a, L, cap, s, h1, h2, h3, h4, h5⟩ := h
  refine (text_any g a L cap s most w h2 h3 h1 hm0 hm1).mono ?_
  rintro e w' ⟨rfl, hc, hg⟩
  refine ⟨_, rfl, ?_, ⟨a, L, cap, _, h1, hc, h3.kept hg, h4, h5⟩, hg⟩
  have := length_textP L s most hm0
  show (((textP L s most).1.toArray.size : Nat) : Int) ≤ most
  rw [List.size_toArray]; exact this
end Go.Proofs.Ytmjlpdmdpagggaa
