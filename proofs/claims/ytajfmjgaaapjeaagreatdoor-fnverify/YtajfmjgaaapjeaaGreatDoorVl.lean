/- Validators in cells, two to each; a drawn region whose callees lay blocks of their own; what spec.l1In, impl.isValId and the two ValsOk answer; old memory stays. Conditions: none of ours. -/
import Derived.Test.YtajfmjgaaapjeaaGreatDoorRows
import Derived.Test.YtajfmjgaaapjeaaGreatDoorG3
import Derived.Test.YtajfmjgaaapjeaaGreatDoorG2
import Derived.Test.YtajfmjgaaapjeaaGreatDoorG4
import Derived.Test.YtajfmjgaaapjeaaGreatDoorLc
import Derived.WalkKit
import Derived.WalkLawsBesides
import Derived.WalkSpells
import Derived.Deep.QuietTactic
import Derived.BigQuiet
import Derived.Deep.Heap
namespace Go.Proofs.YtajfmjgaaapjeaaGreatDoor
open Go.RowKit
open Num
set_option linter.unusedVariables false
/-- Validators in cells from a place on. -/
def VAt (w : World) (b o : Nat) (l : List V) : Prop := ∀ j (hj : j < l.length), w.cell? ⟨b, o + j * 2, none⟩ = some (.int .i64 l[j].i) ∧ w.cell? ⟨b, o + j * 2 + 1, none⟩ = some (.int .i64 l[j].p)
/-- .. where a slice says, if any. -/
def VO (w : World) (a : Option Addr) (l : List V) : Prop := l.length = 0 ∨ ∃ b o, a = some ⟨b, o, none⟩ ∧ VAt w b o l
theorem VAt.below {w w' : World} {b o : Nat} {l : List V} (h : VAt w b o l) (hb : Below w.heap.size w w') : VAt w' b o l := fun j hj => by
  obtain ⟨h1, h2⟩ := h j hj
  exact ⟨by rw [hb.cell (World.block_lt_of_cell? w _ h1)]; exact h1, by rw [hb.cell (World.block_lt_of_cell? w _ h2)]; exact h2⟩
theorem VO.below {w w' : World} {a : Option Addr} {l : List V} (h : VO w a l) (hb : Below w.heap.size w w') : VO w' a l := by
  rcases h with h | ⟨b, o, h1, h2⟩
  · exact .inl h
  · exact .inr ⟨b, o, h1, h2.below hb⟩
def Nums (w : World) (a : Option Addr) (l : List Int) : Prop := l.length = 0 ∨ ∃ b o, a = some ⟨b, o, none⟩ ∧ IAt w b o l
theorem Nums.below {w w' : World} {a : Option Addr} {l : List Int} (h : Nums w a l) (hb : Below w.heap.size w w') : Nums w' a l := by
  rcases h with h | ⟨b, o, h1, h2⟩
  · exact .inl h
  · exact .inr ⟨b, o, h1, h2.below hb⟩
theorem VAt.o {w : World} {b o : Nat} {l : List V} (h : VAt w b o l) : VO w (some ⟨b, o, none⟩) l := .inr ⟨b, o, rfl, h⟩
theorem IAt.o {w : World} {b o : Nat} {l : List Int} (h : IAt w b o l) : Nums w (some ⟨b, o, none⟩) l := .inr ⟨b, o, rfl, h⟩
theorem VAt.other {w : World} {b o : Nat} {l : List V} (h : VAt w b o l) (g p : Nat) (u : Value) (hne : g ≠ b) : VAt (w.setCell ⟨g, p, none⟩ u) b o l := fun j hj => by
  obtain ⟨h1, h2⟩ := h j hj
  exact ⟨by rw [World.cell?_setCell_other w ⟨g, p, none⟩ ⟨b, o + j * 2, none⟩ _ (fun e => by injection e; omega)]; exact h1,
    by rw [World.cell?_setCell_other w ⟨g, p, none⟩ ⟨b, o + j * 2 + 1, none⟩ _ (fun e => by injection e; omega)]; exact h2⟩
/-- One laid behind those that lie. -/
theorem VAt.snoc {w : World} {b o : Nat} {l : List V} {v : V} (h : VAt w b o l) (h1 : (w.cell? ⟨b, o + l.length * 2, none⟩).isSome = true) (h2 : (w.cell? ⟨b, o + l.length * 2 + 1, none⟩).isSome = true) :
    VAt ((w.setCell ⟨b, o + l.length * 2, none⟩ (.int .i64 v.i)).setCell ⟨b, o + l.length * 2 + 1, none⟩ (.int .i64 v.p)) b o (l ++ [v]) := fun j hj => by
  by_cases hlt : j < l.length
  · obtain ⟨k1, k2⟩ := h j hlt
    rw [World.cell?_setCell_other _ ⟨b, o + l.length * 2 + 1, none⟩ ⟨b, o + j * 2, none⟩ _ (fun e => by injection e; omega), World.cell?_setCell_other _ ⟨b, o + l.length * 2, none⟩ ⟨b, o + j * 2, none⟩ _ (fun e => by injection e; omega),
      World.cell?_setCell_other _ ⟨b, o + l.length * 2 + 1, none⟩ ⟨b, o + j * 2 + 1, none⟩ _ (fun e => by injection e; omega), World.cell?_setCell_other _ ⟨b, o + l.length * 2, none⟩ ⟨b, o + j * 2 + 1, none⟩ _ (fun e => by injection e; omega), k1, k2]
    simp [hlt]
  · have : j = l.length := by simp at hj; omega
    subst this
    obtain ⟨u1, e1⟩ := Option.isSome_iff_exists.1 h1
    obtain ⟨u2, e2⟩ := Option.isSome_iff_exists.1 h2
    have e3 : (w.setCell ⟨b, o + l.length * 2, none⟩ (.int .i64 v.i)).cell? ⟨b, o + l.length * 2 + 1, none⟩ = some u2 := by
      rw [World.cell?_setCell_other _ ⟨b, o + l.length * 2, none⟩ ⟨b, o + l.length * 2 + 1, none⟩ _ (fun e => by injection e; omega)]; exact e2
    rw [World.cell?_setCell_other _ ⟨b, o + l.length * 2 + 1, none⟩ ⟨b, o + l.length * 2, none⟩ _ (fun e => by injection e; omega), World.cell?_setCell_same _ _ _ e1, World.cell?_setCell_same _ _ _ e3]
    simp
set_option maxHeartbeats 400000 in
set_option maxRecDepth 100000 in
theorem impl_isId (x : Int) (w : World) :
    Calls Tryz.prog 112 #[.int .i64 x] w fun e w' => e = .returned (.bool (inIs x 1 99)) ∧ w' = w := by
  have HI : Hid (inIs x 1 99 = (decide (1 ≤ x) && decide (x ≤ 99))) := rfl
  by_cases h1 : 1 ≤ x
  · by_cases h2 : x ≤ 99
    all_goals
      go_enter Tryz.func112, Tryz.ntmps112
      go_wp2
      go_ret
      exact ⟨by rw [HI.out]; simp [h1, h2], rfl⟩
  · go_enter Tryz.func112, Tryz.ntmps112
    go_wp2
    go_ret
    exact ⟨by rw [HI.out]; simp; omega, rfl⟩
end Go.Proofs.YtajfmjgaaapjeaaGreatDoor
