/- Validators in cells, two to each; a drawn region whose callees lay blocks of their own; what spec.l1In, impl.isValId and the two ValsOk answer; old memory stays. Conditions: none of ours. -/
import Derived.Test.YtaeokecodejpdaaRows
import Derived.Test.YtaeokecodejpdaaKn
import Derived.Test.YtaeokecodejpdaaLaw
import Derived.WalkKit
import Derived.WalkLawsBesides
import Derived.WalkSpells
import Derived.Deep.QuietTactic
import Derived.BigQuiet
import Derived.Deep.Heap
namespace Go.Proofs.Ytaeokecodejpdaa
open Go.RowKit
open Num
set_option linter.unusedVariables false
/-- A world that lies behind w: old memory stands. -/
structure Bel (w : World) where
  W : World
  h : Below w.heap.size w W
theorem wp_region_below {P : Program} {id : Nat} {Q : Exit → Act → World → Prop} {a : Act} {w : World} {l : List Oper} (hm : P.follows .mixedOrders = true) (hB : Region.lexB .any l.toArray = true)
    (h : wpQuiet P l.toArray (fun w' => ∃ p : Bel w, w' = p.W) (fun a' => ∀ w', (∃ p : Bel w, w' = p.W) → Q .normal a' w') l a) : (Code.region id l.toArray true).wp P Q a w :=
  wp_region_quiet (C := fun w' => ∃ p : Bel w, w' = p.W) hm hB ⟨⟨_, (Below.refl _ w).drew⟩, rfl⟩ (by simpa using h)
theorem bel_of {P : Program} {f : FuncId} {args : Array Value} {w : World} {p : Bel w} {v : Value}
    (h : Calls P f args p.W fun e w' => e = .returned v ∧ Below p.W.heap.size p.W w') : Calls P f args p.W fun e w'' => e = .returned v ∧ ∃ q : Bel w, w'' = q.W :=
  h.mono fun _ w' ⟨he, hb⟩ => ⟨he, ⟨w', p.h.trans (hb.mono p.h.size)⟩, rfl⟩
theorem bel_of_same {P : Program} {f : FuncId} {args : Array Value} {w : World} {p : Bel w} {v : Value}
    (h : Calls P f args p.W fun e w' => e = .returned v ∧ w' = p.W) : Calls P f args p.W fun e w'' => e = .returned v ∧ ∃ q : Bel w, w'' = q.W :=
  h.mono fun _ w' ⟨he, hb⟩ => ⟨he, p, hb⟩
theorem bel_some (w : World) : Nonempty (Bel w) := ⟨⟨w, Below.refl _ _⟩⟩
theorem Bel.cell {w : World} (p : Bel w) {a : Addr} {v : Value} (h : w.cell? a = some v) : p.W.cell? a = some v := by
  rw [p.h.cell (World.block_lt_of_cell? w _ h)]; exact h
/-- Validators in cells from a place on. -/
def VAt (w : World) (b o : Nat) (l : List V) : Prop := ∀ j (hj : j < l.length), w.cell? ⟨b, o + j * 2, none⟩ = some (.int .i64 l[j].i) ∧ w.cell? ⟨b, o + j * 2 + 1, none⟩ = some (.int .i64 l[j].p)
/-- .. where a slice says, if any. -/
def VO (w : World) (a : Option Addr) (l : List V) : Prop := l.length = 0 ∨ ∃ b o, a = some ⟨b, o, none⟩ ∧ VAt w b o l
theorem VAt.below {w w' : World} {b o : Nat} {l : List V} (h : VAt w b o l) (hb : Below w.heap.size w w') : VAt w' b o l := fun j hj => by
  obtain ⟨h1, h2⟩ := h j hj
  exact ⟨by rw [hb.cell (World.block_lt_of_cell? w _ h1)]; exact h1, by rw [hb.cell (World.block_lt_of_cell? w _ h2)]; exact h2⟩
theorem VO.below {w w' : World} {a : Option Addr} {l : List V} (h : VO w a l) (hb : Below w.heap.size w w') : VO w' a l := by
  rcases h with h | ⟨b, o, h1, h2⟩
  · exact .inl h
  · exact .inr ⟨b, o, h1, h2.below hb⟩
/-- Numbers in cells from a place on; .. where a slice says, if any. -/
def IAt (w : World) (b o : Nat) (l : List Int) : Prop := ∀ j (hj : j < l.length), w.cell? ⟨b, o + j, none⟩ = some (.int .i64 l[j])
def Nums (w : World) (a : Option Addr) (l : List Int) : Prop := l.length = 0 ∨ ∃ b o, a = some ⟨b, o, none⟩ ∧ IAt w b o l
theorem IAt.below {w w' : World} {b o : Nat} {l : List Int} (h : IAt w b o l) (hb : Below w.heap.size w w') : IAt w' b o l := fun j hj => by
  have h1 := h j hj
  rw [hb.cell (World.block_lt_of_cell? w _ h1)]; exact h1
theorem Nums.below {w w' : World} {a : Option Addr} {l : List Int} (h : Nums w a l) (hb : Below w.heap.size w w') : Nums w' a l := by
  rcases h with h | ⟨b, o, h1, h2⟩
  · exact .inl h
  · exact .inr ⟨b, o, h1, h2.below hb⟩
theorem VAt.o {w : World} {b o : Nat} {l : List V} (h : VAt w b o l) : VO w (some ⟨b, o, none⟩) l := .inr ⟨b, o, rfl, h⟩
theorem IAt.o {w : World} {b o : Nat} {l : List Int} (h : IAt w b o l) : Nums w (some ⟨b, o, none⟩) l := .inr ⟨b, o, rfl, h⟩
/-- Cells that may be written. -/
def Room (w : World) (b o n : Nat) : Prop := ∀ j, j < n → (w.cell? ⟨b, o + j, none⟩).isSome = true ∧ w.frozen? ⟨b, o + j, none⟩ = false
theorem Room.below {w w' : World} {b o n : Nat} (h : Room w b o n) (hb : Below w.heap.size w w') : Room w' b o n := fun j hj => by
  obtain ⟨h1, h2⟩ := h j hj
  obtain ⟨u, hu⟩ := Option.isSome_iff_exists.1 h1
  have hlt := World.block_lt_of_cell? w _ hu
  exact ⟨by rw [hb.cell (p := ⟨b, o + j, none⟩) hlt]; exact h1, by rw [hb.frozen (p := ⟨b, o + j, none⟩) hlt]; exact h2⟩
theorem some_set (w : World) (a x : Addr) (u : Value) (h : (w.cell? x).isSome = true) : ((w.setCell a u).cell? x).isSome = true := by
  by_cases e : x = a
  · subst e; rw [World.cell?_setCell_same' w x u h]; rfl
  · rw [World.cell?_setCell_other w a x u (fun h => e h.symm)]; exact h
theorem Room.set {w : World} {b o n : Nat} (h : Room w b o n) (g p : Nat) (u : Value) : Room (w.setCell ⟨g, p, none⟩ u) b o n := fun j hj => by
  obtain ⟨h1, h2⟩ := h j hj
  exact ⟨some_set w _ _ u h1, by rw [World.frozen?_setCell]; exact h2⟩
theorem VAt.other {w : World} {b o : Nat} {l : List V} (h : VAt w b o l) (g p : Nat) (u : Value) (hne : g ≠ b) : VAt (w.setCell ⟨g, p, none⟩ u) b o l := fun j hj => by
  obtain ⟨h1, h2⟩ := h j hj
  exact ⟨by rw [World.cell?_setCell_other w ⟨g, p, none⟩ ⟨b, o + j * 2, none⟩ _ (fun e => by injection e; omega)]; exact h1,
    by rw [World.cell?_setCell_other w ⟨g, p, none⟩ ⟨b, o + j * 2 + 1, none⟩ _ (fun e => by injection e; omega)]; exact h2⟩
/-- One laid behind those that lie. -/
theorem VAt.snoc {w : World} {b o : Nat} {l : List V} {v : V} (h : VAt w b o l) (h1 : (w.cell? ⟨b, o + l.length * 2, none⟩).isSome = true) (h2 : (w.cell? ⟨b, o + l.length * 2 + 1, none⟩).isSome = true) :
    VAt ((w.setCell ⟨b, o + l.length * 2, none⟩ (.int .i64 v.i)).setCell ⟨b, o + l.length * 2 + 1, none⟩ (.int .i64 v.p)) b o (l ++ [v]) := fun j hj => by
  by_cases hlt : j < l.length
  · obtain ⟨k1, k2⟩ := h j hlt
    rw [World.cell?_setCell_other _ ⟨b, o + l.length * 2 + 1, none⟩ ⟨b, o + j * 2, none⟩ _ (fun e => by injection e; omega), World.cell?_setCell_other _ ⟨b, o + l.length * 2, none⟩ ⟨b, o + j * 2, none⟩ _ (fun e => by injection e; omega),
      World.cell?_setCell_other _ ⟨b, o + l.length * 2 + 1, none⟩ ⟨b, o + j * 2 + 1, none⟩ _ (fun e => by injection e; omega), World.cell?_setCell_other _ ⟨b, o + l.length * 2, none⟩ ⟨b, o + j * 2 + 1, none⟩ _ (fun e => by injection e; omega), k1, k2]
    simp [hlt]
  · have : j = l.length := by simp at hj; omega
    subst this
    obtain ⟨u1, e1⟩ := Option.isSome_iff_exists.1 h1
    obtain ⟨u2, e2⟩ := Option.isSome_iff_exists.1 h2
    have e3 : (w.setCell ⟨b, o + l.length * 2, none⟩ (.int .i64 v.i)).cell? ⟨b, o + l.length * 2 + 1, none⟩ = some u2 := by
      rw [World.cell?_setCell_other _ ⟨b, o + l.length * 2, none⟩ ⟨b, o + l.length * 2 + 1, none⟩ _ (fun e => by injection e; omega)]; exact e2
    rw [World.cell?_setCell_other _ ⟨b, o + l.length * 2 + 1, none⟩ ⟨b, o + l.length * 2, none⟩ _ (fun e => by injection e; omega), World.cell?_setCell_same _ _ _ e1, World.cell?_setCell_same _ _ _ e3]
    simp
def inIs (x lo hi : Int) : Bool := decide (lo ≤ x) && decide (x ≤ hi)
set_option maxHeartbeats 400000 in
theorem spec_in (x lo hi : Int) (w : World) :
    Calls Try.prog 20 #[.int .i64 x, .int .i64 lo, .int .i64 hi] w fun e w' => e = .returned (.bool (inIs x lo hi)) ∧ w' = w := by
  have HI : Hid (inIs x lo hi = (decide (lo ≤ x) && decide (x ≤ hi))) := rfl
  by_cases h1 : lo ≤ x
  · by_cases h2 : x ≤ hi
    all_goals
      go_enter Try.func20, Try.ntmps20
      go_wp2
      go_ret
      exact ⟨by rw [HI.out]; simp [h1, h2], rfl⟩
  · go_enter Try.func20, Try.ntmps20
    go_wp2
    go_ret
    exact ⟨by rw [HI.out]; simp; omega, rfl⟩
set_option maxHeartbeats 400000 in
theorem impl_isId (x : Int) (w : World) :
    Calls Try.prog 21 #[.int .i64 x] w fun e w' => e = .returned (.bool (inIs x 1 99)) ∧ w' = w := by
  have HI : Hid (inIs x 1 99 = (decide (1 ≤ x) && decide (x ≤ 99))) := rfl
  by_cases h1 : 1 ≤ x
  · by_cases h2 : x ≤ 99
    all_goals
      go_enter Try.func21, Try.ntmps21
      go_wp2
      go_ret
      exact ⟨by rw [HI.out]; simp [h1, h2], rfl⟩
  · go_enter Try.func21, Try.ntmps21
    go_wp2
    go_ret
    exact ⟨by rw [HI.out]; simp; omega, rfl⟩
end Go.Proofs.Ytaeokecodejpdaa
