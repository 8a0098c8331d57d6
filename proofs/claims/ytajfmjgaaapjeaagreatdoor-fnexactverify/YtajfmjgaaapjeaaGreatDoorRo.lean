/- Rows of validators between two bounds, marked and held; markAnchor and heldAnchor. Conditions: rows that a machine can hold. -/
import Derived.Test.YtajfmjgaaapjeaaGreatDoorGB
import Derived.Test.YtajfmjgaaapjeaaGreatDoorLa
import Derived.Test.YtajfmjgaaapjeaaGreatDoorVc
namespace Go.Proofs.YtajfmjgaaapjeaaGreatDoor
open Go.RowKit
open Num
set_option linter.unusedVariables false
/-- A row of validators in a block between lo and hi that is not ne, that may be written; or an empty one. -/
def Rr (w : World) (lo hi ne : Nat) (a : Option Addr) (l : List V) : Prop := l.length = 0 ∨ ∃ b, a = some ⟨b, 0, none⟩ ∧ lo ≤ b ∧ b < hi ∧ b ≠ ne ∧ b < w.heap.size ∧ VAt w b 0 l ∧ Room w b 0 (l.length * 2)
theorem Rr.o {w : World} {lo hi ne : Nat} {a : Option Addr} {l : List V} (h : Rr w lo hi ne a l) : VO w a l := by
  rcases h with h | ⟨b, h1, _, _, _, _, h2, _⟩
  · exact .inl h
  · exact .inr ⟨b, 0, h1, h2⟩
theorem Rr.below {w w' : World} {lo hi ne : Nat} {a : Option Addr} {l : List V} (h : Rr w lo hi ne a l) (hb : Below w.heap.size w w') : Rr w' lo hi ne a l := by
  rcases h with h | ⟨b, h1, h2, h3, h4, h5, h6, h7⟩
  · exact .inl h
  · exact .inr ⟨b, h1, h2, h3, h4, Nat.lt_of_lt_of_le h5 hb.size, h6.below hb, h7.below hb⟩
/-- It stays where another place is written. -/
theorem Rr.far {w w' : World} {lo hi ne : Nat} {a : Option Addr} {l : List V} {r : Option Nat} (h : Rr w lo hi ne a l) (hg : w.grownBy w' r) (hr : ∀ j, r = some j → j < lo ∨ hi ≤ j) : Rr w' lo hi ne a l := by
  rcases h with h | ⟨b, h1, h2, h3, h4, h5, h6, h7⟩
  · exact .inl h
  · have hbl := hg.block b h5 (fun e => by have := hr b e.symm; omega)
    have hc : ∀ j, w'.cell? ⟨b, j, none⟩ = w.cell? ⟨b, j, none⟩ := fun j => World.cell?_of_block hbl
    have hf : ∀ j, w'.frozen? ⟨b, j, none⟩ = w.frozen? ⟨b, j, none⟩ := fun j => by unfold World.frozen?; rw [hbl]
    refine .inr ⟨b, h1, h2, h3, h4, Nat.lt_of_lt_of_le h5 hg.size, fun j hj => ?_, fun j hj => ?_⟩
    · obtain ⟨k1, k2⟩ := h6 j hj
      exact ⟨(hc _).trans k1, (hc _).trans k2⟩
    · obtain ⟨k1, k2⟩ := h7 j hj
      exact ⟨by rw [hc]; exact k1, by rw [hf]; exact k2⟩
theorem Cpv.rr {w : World} {B hi ne : Nat} {a : Option Addr} {l : List V} (h : Cpv w B a l) (hi' : w.heap.size ≤ hi) (hne : ∀ b, a = some ⟨b, 0, none⟩ → b < w.heap.size → b ≠ ne) : Rr w B hi ne a l := by
  obtain ⟨b, rfl, h1, h2, h3, h4⟩ := h
  rcases h2 with h2 | h2
  · exact .inl h2
  · exact .inr ⟨b, rfl, h1, by omega, hne b rfl h2, h2, h3, h4⟩
theorem OwnV.rr {w : World} {B hi ne : Nat} {a : Option Addr} {n cap : Nat} {l : List V} (h : OwnV w B (.slice a n cap) l) (hi' : w.heap.size ≤ hi) (hne : ∀ b, B ≤ b → b < w.heap.size → b ≠ ne) : Rr w B hi ne a l := by
  obtain ⟨a', cap', hv, hfr, _, _⟩ := OwnV.fr h
  obtain ⟨a2, cap2, hv2, _, _, hb⟩ := OwnV.nn h
  injection hv with e1 _ _
  subst e1
  injection hv2 with e2 _ _
  subst e2
  rcases hfr with h0 | ⟨b, o, rfl, h1, h2, h3⟩
  · exact .inl h0
  · obtain ⟨k1, k2⟩ := hb b o rfl
    have ho : o = 0 := by
      rcases h.2 with ⟨h4, _⟩ | ⟨g, cap'', cur, h4, _⟩
      · injection h4 with h5; cases h5
      · injection h4 with h5; injection h5 with h5; injection h5
    subst ho
    exact .inr ⟨b, rfl, k1, by omega, hne b k1 k2, k2, h2, h3⟩
theorem mark_rr (a : Option Addr) (cap : Nat) (l : List V) (k lo hi ne : Nat) (w : World) (h : Rr w lo hi ne a l) (hlen : l.length ≤ 1099511627776) (hk : k ≤ 1099511627776) :
    Calls Tryz.prog 27 #[.slice a l.length cap, .int .i64 (k : Int)] w fun e w' => e = .returned (.int .i64 ((k : Int) + 2 * (l.length : Int))) ∧ Hid (Rr w' lo hi ne a (vmarks k l.length)) ∧ ∃ r : Option Nat, (∀ j, r = some j → lo ≤ j ∧ j < hi ∧ j ≠ ne) ∧ w.grownBy w' r := by
  rcases h with h0 | ⟨b, rfl, h1, h2, h3, h4, h5, h6⟩
  · rw [h0]
    refine (vmark_nil a cap k w).mono ?_
    rintro e w' ⟨rfl, rfl⟩
    exact ⟨by simp, .inl (by rw [vmarks_length]), none, fun j e => (by cases e), gr_refl _ _⟩
  · refine (mark_any b 0 cap l k w h6 hlen hk).mono ?_
    rintro e w' ⟨rfl, hv, hr, hg⟩
    have hs := hg.size
    exact ⟨rfl, .inr ⟨b, rfl, h1, h2, h3, by omega, hv, by rw [vmarks_length]; exact hr⟩, some b, fun j e => (by injection e with e; subst e; exact ⟨h1, h2, h3⟩), hg⟩
set_option maxHeartbeats 800000 in
set_option maxRecDepth 100000 in
theorem mark_anchor (x : H) (a : Option Addr) (cap : Nat) (l : List V) (k lo hi ne : Nat) (w : World) (h : Rr w lo hi ne a l) (hlen : l.length ≤ 1099511627776) (hk : k ≤ 1099511627776) :
    Calls Tryz.prog 26 #[aV x (.slice a l.length cap), .int .i64 (k : Int)] w fun e w' => e = .returned (.int .i64 ((k : Int) + 2 * (l.length : Int))) ∧ Hid (Rr w' lo hi ne a (vmarks k l.length)) ∧ ∃ r : Option Nat, (∀ j, r = some j → lo ≤ j ∧ j < hi ∧ j ≠ ne) ∧ w.grownBy w' r := by
  have HB : Hid (Below w.heap.size w (w.alloc (.cells (acs x (.slice a l.length cap)).toArray 30))) := below_one _ _
  have H1 : Hid (Blk (w.alloc (.cells (acs x (.slice a l.length cap)).toArray 30)) w.heap.size (acs x (.slice a l.length cap)) 30) := blk_new w _ _
  have kM := mark_rr a cap l k lo hi ne _ (h.below HB.out) hlen hk
  clear h
  obtain ⟨h, t, aa, v, n, d⟩ := x
  unfold aV
  unfold acs at *
  simp only at *
  have x6 := H1.out.cell 6 rfl
  generalize ((k : Int) + 2 * (l.length : Int)) = K at *
  generalize vmarks (k : Int) l.length = L at *
  go_enter Tryz.func26, Tryz.ntmps26
  go_wp2_with fail
  generalize w.alloc (Obj.cells #[Value.int IntKind.i64 h, Value.int IntKind.i64 t, Value.string aa, Value.string v, Value.string n, Value.string d, Value.slice a l.length cap] 30) = w1 at *
  refine kM.mono ?_
  rintro e w2 ⟨rfl, hr, r, hq, hg⟩
  have hg2 : w.grownBy w2 r := gr_trans ⟨HB.out.os, HB.out.tape, HB.out.output, HB.out.size, fun j hj _ => HB.out.block j hj⟩ hg
  go_wp2
  go_ret
  exact ⟨rfl, hr, r, hq, hg2⟩
set_option maxHeartbeats 800000 in
set_option maxRecDepth 100000 in
theorem held_anchor (x : H) (a : Option Addr) (cap n k : Nat) (w : World) (h : VO w a (vmarks k n)) (hn : n ≤ 1099511627776) (hk : k ≤ 1099511627776) :
    Calls Tryz.prog 29 #[aV x (.slice a n cap), .int .i64 (k : Int)] w fun e w' => e = .returned (.int .i64 ((k : Int) + 2 * (n : Int))) ∧ Below w.heap.size w w' := by
  have HB : Hid (Below w.heap.size w (w.alloc (.cells (acs x (.slice a n cap)).toArray 30))) := below_one _ _
  have H1 : Hid (Blk (w.alloc (.cells (acs x (.slice a n cap)).toArray 30)) w.heap.size (acs x (.slice a n cap)) 30) := blk_new w _ _
  have kM := held_any a cap n k _ (h.below HB.out) hn hk
  have hK : ¬ ((k : Int) + 2 * (n : Int)) < 0 := by omega
  clear h hn hk
  obtain ⟨h, t, aa, v, nn, d⟩ := x
  unfold aV
  unfold acs at *
  simp only at *
  have x6 := H1.out.cell 6 rfl
  generalize ((k : Int) + 2 * (n : Int)) = K at *
  go_enter Tryz.func29, Tryz.ntmps29
  go_wp2_with fail
  generalize w.alloc (Obj.cells #[Value.int IntKind.i64 h, Value.int IntKind.i64 t, Value.string aa, Value.string v, Value.string nn, Value.string d, Value.slice a n cap] 30) = w1 at *
  refine kM.mono ?_
  rintro e w2 ⟨rfl, rfl⟩
  go_wp2
  go_ret
  exact ⟨rfl, HB.out⟩
end Go.Proofs.YtajfmjgaaapjeaaGreatDoor
