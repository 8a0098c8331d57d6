/- Signatures in cells, two to each; a commit as a value and as cells. Conditions: none of ours. -/
import Derived.Test.YtbpmjejmeaifbaaGreatDoorCm
import Derived.Test.YtbpmjejmeaifbaaGreatDoorBk
namespace Go.Proofs.YtbpmjejmeaifbaaGreatDoor
open Go.RowKit
open Num
set_option linter.unusedVariables false
/-- Signatures in cells from a place on. -/
def SAt (w : World) (b o : Nat) (l : List Sg) : Prop := ∀ j (hj : j < l.length), w.cell? ⟨b, o + j * 2, none⟩ = some (.int .i64 l[j].v) ∧ w.cell? ⟨b, o + j * 2 + 1, none⟩ = some (.string l[j].s)
/-- .. where a slice says, if any. -/
def SO (w : World) (a : Option Addr) (l : List Sg) : Prop := l.length = 0 ∨ ∃ b o, a = some ⟨b, o, none⟩ ∧ SAt w b o l
theorem SAt.lt {w : World} {b o : Nat} {l : List Sg} (h : SAt w b o l) (h0 : 0 < l.length) : b < w.heap.size := World.block_lt_of_cell? w _ (h 0 h0).1
theorem SAt.below {w w' : World} {B b o : Nat} {l : List Sg} (h : SAt w b o l) (hb : Below B w w') (hB : b < B) : SAt w' b o l := fun j hj => by
  obtain ⟨h1, h2⟩ := h j hj
  exact ⟨(hb.cell (p := ⟨b, o + j * 2, none⟩) hB).trans h1, (hb.cell (p := ⟨b, o + j * 2 + 1, none⟩) hB).trans h2⟩
theorem SO.below {w w' : World} {a : Option Addr} {l : List Sg} (h : SO w a l) (hb : Below w.heap.size w w') : SO w' a l := by
  rcases h with h | ⟨b, o, h1, h2⟩
  · exact .inl h
  · rcases Nat.eq_zero_or_pos l.length with h0 | h0
    · exact .inl h0
    · exact .inr ⟨b, o, h1, h2.below hb (h2.lt h0)⟩
theorem SAt.o {w : World} {b o : Nat} {l : List Sg} (h : SAt w b o l) : SO w (some ⟨b, o, none⟩) l := .inr ⟨b, o, rfl, h⟩
def sgV (x : Sg) : Value := .agg #[.int .i64 x.v, .string x.s]
def sgc (x : Sg) : List Value := [.int .i64 x.v, .string x.s]
def cV (x : Ct) (a : Option Addr) (cap : Nat) : Value := .agg #[.int .i64 x.h, .int .i64 x.r, .string x.i, .slice a x.l.length cap]
def ccs (x : Ct) (a : Option Addr) (cap : Nat) : List Value := [.int .i64 x.h, .int .i64 x.r, .string x.i, .slice a x.l.length cap]
theorem below_two (w : World) (o o' : Obj) : Below w.heap.size w ((w.alloc o).alloc o') := ((Below.refl _ _).alloc (Nat.le_refl _) _).alloc (by simp) _
theorem below_one (w : World) (o : Obj) : Below w.heap.size w (w.alloc o) := (Below.refl _ _).alloc (Nat.le_refl _) _
end Go.Proofs.YtbpmjejmeaifbaaGreatDoor
