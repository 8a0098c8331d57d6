/- Draws, as far as laws ask: whatever is drawn is of some size; old memory stands but for the cursor. Conditions: a code of at most 2 to the 20 bytes. -/
import Derived.Test.YtdpjlfgfacjfeaaDoorCur4
import Derived.Test.YtdpjlfgfacjfeaaDoorSpoil
namespace Go.Proofs.YtdpjlfgfacjfeaaDoor
open Go.RowKit
open Num
set_option linter.unusedVariables false
/-- A cursor at block g over some code; both lie below B. -/
def DS (w : World) (g B : Nat) : Prop :=
  ∃ (a : Option Addr) (L : List UInt8) (cap : Nat) (s : St), L.length ≤ 1048576 ∧ CurAt w g a L.length cap s ∧ CodeAt w g a L ∧ g < B ∧ ∀ j, j < L.length → ∃ b off, a = some ⟨b, off, none⟩ ∧ b < B
theorem DS.below {w w' : World} {g B : Nat} (h : DS w g B) (hb : Below B w w') : DS w' g B := by
  obtain ⟨a, L, cap, s, h1, h2, h3, h4, h5⟩ := h
  refine ⟨a, L, cap, s, h1, ?_, fun j hj => ?_, h4, h5⟩
  · unfold CurAt at h2 ⊢
    rw [hb.block g h4]; exact h2
  · obtain ⟨b, off, e, hne, hc⟩ := h3 j hj
    obtain ⟨b', off', e', hlt⟩ := h5 j hj
    rw [e] at e'
    simp at e'
    obtain ⟨rfl, rfl⟩ := e'
    exact ⟨b, off, e, hne, by rw [hb.cell (p := ⟨b, off + j, none⟩) hlt]; exact hc⟩
theorem DS.lt {w : World} {g B : Nat} (h : DS w g B) : g < B := by
  obtain ⟨a, L, cap, s, h1, h2, h3, h4, h5⟩ := h
  exact h4
theorem DS.lt' {w : World} {g B : Nat} (h : DS w g B) : g < w.heap.size := by
  obtain ⟨a, L, cap, s, h1, h2, h3, h4, h5⟩ := h
  exact (Array.getElem?_eq_some_iff.1 h2).1
theorem below_d (g B : Nat) (n : Int) (w : World) (h : DS w g B) (hn : 0 < n) :
    Calls Tryd.prog 37 #[.pointer (some ⟨g, 0, none⟩), .int .i64 n] w fun e w' => ∃ x : Int, e = .returned (.int .i64 x) ∧ 0 ≤ x ∧ x < n ∧ Hid (DS w' g B) ∧ Hid (w.grownBy w' (some g)) := by
  obtain ⟨a, L, cap, s, h1, h2, h3, h4, h5⟩ := h
  refine (below_any g a L cap s n w h2 h3 h1).mono ?_
  rintro e w' ⟨rfl, hc, hg⟩
  have hb := belowV_bound L s n hn
  exact ⟨_, rfl, hb.1, hb.2, ⟨a, L, cap, _, h1, hc, h3.kept hg, h4, h5⟩, hg⟩
theorem one_size (x : UInt8) : (⟨#[x]⟩ : ByteArray).size = 1 := rfl
theorem text_d (g B : Nat) (most : Int) (w : World) (h : DS w g B) (hm0 : 0 ≤ most) (hm1 : most ≤ 1000) :
    Calls Tryd.prog 39 #[.pointer (some ⟨g, 0, none⟩), .int .i64 most] w fun e w' => ∃ t : ByteArray, e = .returned (.string t) ∧ Hid ((t.size : Int) ≤ most) ∧ Hid (DS w' g B) ∧ Hid (w.grownBy w' (some g)) := by
  obtain ⟨a, L, cap, s, h1, h2, h3, h4, h5⟩ := h
  refine (text_any g a L cap s most w h2 h3 h1 hm0 hm1).mono ?_
  rintro e w' ⟨rfl, hc, hg⟩
  refine ⟨_, rfl, ?_, ⟨a, L, cap, _, h1, hc, h3.kept hg, h4, h5⟩, hg⟩
  have := length_textP L s most hm0
  show (((textP L s most).1.toArray.size : Nat) : Int) ≤ most
  rw [List.size_toArray]; exact this
set_option maxHeartbeats 400000 in
theorem spoil_d (g B : Nat) (s : ByteArray) (w : World) (h : DS w g B) (hs : s.size ≤ 1000) :
    Calls Tryd.prog 38 #[.pointer (some ⟨g, 0, none⟩), .string s] w fun e w' => ∃ t : ByteArray, e = .returned (.string t) ∧ Hid (t.size ≤ 1003) ∧ Hid (DS w' g B) ∧ Hid (w.grownBy w' (some g)) := by
  rcases Nat.eq_zero_or_pos s.size with h0 | h0
  · have hse : s = ⟨#[]⟩ := by
      obtain ⟨d⟩ := s
      rw [Array.eq_empty_of_size_eq_zero (show d.size = 0 from h0)]
    have kT := text_d g B 3 w h (by omega) (by omega)
    clear h hs h0
    subst hse
    go_enter Tryd.func38, Tryd.ntmps38
    go_wp2_with fail
    refine kT.mono ?_
    rintro e w' ⟨t, rfl, hz, hd, hg⟩
    have HZ : Hid (t.size ≤ 1003) := by have := hz.out; show t.size ≤ 1003; omega
    clear hz
    go_wp2
    go_ret
    exact ⟨_, rfl, HZ, hd, hg⟩
  · obtain ⟨a, L, cap, st, h1, h2, h3, h4, h5⟩ := h
    refine (spoil_any g a L cap st s w h2 h3 h1 h0 hs).mono ?_
    rintro e w' ⟨rfl, hc, hg⟩
    refine ⟨_, rfl, ?_, ⟨a, L, cap, _, h1, hc, h3.kept hg, h4, h5⟩, hg⟩
    show _ ≤ _
    unfold spoilP
    repeat' split
    all_goals simp only [ByteArray.size_append, ByteArray.size_extract, one_size]
    all_goals omega
end Go.Proofs.YtdpjlfgfacjfeaaDoor
