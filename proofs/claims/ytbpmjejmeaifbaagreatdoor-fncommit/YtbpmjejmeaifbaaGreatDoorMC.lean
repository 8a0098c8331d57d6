/- A drawn region whose callees lay blocks of their own; rows of numbers in cells. Conditions: none of ours. A block of cells as one fact: its cells, a store into it, what keeps it. Conditions: none of ours. Signatures in cells, two to each; a commit as a value and as cells. Conditions: none of ours. -/
import Derived.Test.YtbpmjejmeaifbaaGreatDoorRows
import Derived.Test.YtbpmjejmeaifbaaGreatDoorLaw
import Derived.Test.YtbpmjejmeaifbaaGreatDoorMB
import Derived.WalkKit
import Derived.WalkLawsBesides
import Derived.WalkSpells
import Derived.Deep.QuietTactic
import Derived.BigQuiet
import Derived.Deep.Heap
namespace Go.Proofs.YtbpmjejmeaifbaaGreatDoor
open Go.RowKit
open Num
set_option linter.unusedVariables false
/-- A world that lies behind w: old memory stands. -/
structure Bel (w : World) where
  W : World
  h : Below w.heap.size w W
theorem wp_region_below {P : Program} {id : Nat} {Q : Exit → Act → World → Prop} {a : Act} {w : World} {l : List Oper} (hm : P.follows .mixedOrders = true) (hB : Region.lexB .any l.toArray = true)
    (h : wpQuiet P l.toArray (fun w' => ∃ p : Bel w, w' = p.W) (fun a' => ∀ w', (∃ p : Bel w, w' = p.W) → Q .normal a' w') l a) : (Code.region id l.toArray true).wp P Q a w :=
  wp_region_quiet (C := fun w' => ∃ p : Bel w, w' = p.W) hm hB ⟨⟨_, (Below.refl _ w).drew⟩, rfl⟩ (by simpa using h)
theorem bel_of {P : Program} {f : FuncId} {args : Array Value} {w : World} {p : Bel w} {v : Value}
    (h : Calls P f args p.W fun e w' => e = .returned v ∧ Below p.W.heap.size p.W w') : Calls P f args p.W fun e w'' => e = .returned v ∧ ∃ q : Bel w, w'' = q.W :=
  h.mono fun _ w' ⟨he, hb⟩ => ⟨he, ⟨w', p.h.trans (hb.mono p.h.size)⟩, rfl⟩
theorem bel_of_same {P : Program} {f : FuncId} {args : Array Value} {w : World} {p : Bel w} {v : Value}
    (h : Calls P f args p.W fun e w' => e = .returned v ∧ w' = p.W) : Calls P f args p.W fun e w'' => e = .returned v ∧ ∃ q : Bel w, w'' = q.W :=
  h.mono fun _ w' ⟨he, hb⟩ => ⟨he, p, hb⟩
theorem bel_some (w : World) : Nonempty (Bel w) := ⟨⟨w, Below.refl _ _⟩⟩
theorem Bel.cell {w : World} (p : Bel w) {a : Addr} {v : Value} (h : w.cell? a = some v) : p.W.cell? a = some v := by
  rw [p.h.cell (World.block_lt_of_cell? w _ h)]; exact h
/-- Numbers in cells from a place on; .. where a slice says, if any. -/
def IAt (w : World) (b o : Nat) (l : List Int) : Prop := ∀ j (hj : j < l.length), w.cell? ⟨b, o + j, none⟩ = some (.int .i64 l[j])
theorem IAt.below {w w' : World} {b o : Nat} {l : List Int} (h : IAt w b o l) (hb : Below w.heap.size w w') : IAt w' b o l := fun j hj => by
  have h1 := h j hj
  rw [hb.cell (World.block_lt_of_cell? w _ h1)]; exact h1
end Go.Proofs.YtbpmjejmeaifbaaGreatDoor
namespace Go.Proofs.YtbpmjejmeaifbaaGreatDoor
open Go.RowKit
open Num
set_option linter.unusedVariables false
/-- Block g holds just these cells, and may be written. -/
def Blk (W : World) (g : Nat) (cs : List Value) (t : TypeId) : Prop := W.heap[g]? = some (.cells cs.toArray t (0, 0))
theorem Blk.cell {W : World} {g : Nat} {cs : List Value} {t : TypeId} (h : Blk W g cs t) (j : Nat) {v : Value} (hv : cs[j]? = some v) : W.cell? ⟨g, j, none⟩ = some v := by
  rw [cell_of_row W g j _ t (0, 0) h]; simpa using hv
theorem Blk.frozen {W : World} {g : Nat} {cs : List Value} {t : TypeId} (h : Blk W g cs t) (j : Nat) : W.frozen? ⟨g, j, none⟩ = false := frozen_of_row W g j _ t h
theorem Blk.set {W : World} {g : Nat} {cs : List Value} {t : TypeId} (h : Blk W g cs t) (j : Nat) (u : Value) : Blk (W.setCell ⟨g, j, none⟩ u) g (cs.set j u) t := by
  unfold Blk at h ⊢
  rw [heap_setCell_same W g j _ t _ h]; simp
theorem Blk.other {W : World} {g : Nat} {cs : List Value} {t : TypeId} (h : Blk W g cs t) {g' : Nat} (j : Nat) (u : Value) (hne : g ≠ g') : Blk (W.setCell ⟨g', j, none⟩ u) g cs t := by
  unfold Blk at h ⊢
  rw [heap_setCell_other W ⟨g', j, none⟩ g u hne]; exact h
theorem Blk.below {W W' : World} {g B : Nat} {cs : List Value} {t : TypeId} (h : Blk W g cs t) (hb : Below B W W') (hg : g < B) : Blk W' g cs t := by
  unfold Blk at h ⊢
  rw [hb.block g hg]; exact h
theorem Blk.lt {W : World} {g : Nat} {cs : List Value} {t : TypeId} (h : Blk W g cs t) : g < W.heap.size := (Array.getElem?_eq_some_iff.1 h).1
theorem Blk.grown {W W' : World} {g : Nat} {r : Option Nat} {cs : List Value} {t : TypeId} (h : Blk W g cs t) (k : W.grownBy W' r) (hr : r ≠ some g) : Blk W' g cs t := by
  have := h.lt
  unfold Blk at h ⊢
  rw [k.block g this (fun e => hr e.symm)]; exact h
theorem Blk.alloc {W : World} {g : Nat} {cs : List Value} {t : TypeId} (h : Blk W g cs t) (o : Obj) : Blk (W.alloc o) g cs t := h.below ((Below.refl _ _).alloc (Nat.le_refl _) o) h.lt
theorem blk_new (w : World) (cs : List Value) (t : TypeId) : Blk (w.alloc (.cells cs.toArray t)) w.heap.size cs t := heap_alloc_new _ _
theorem beq_str (a b : ByteArray) : (a.toList == b.toList) = decide (a = b) := by
  by_cases h : a = b
  · subst h; simp
  · rw [decide_eq_false h, ← Bool.not_eq_true, beq_iff_eq]
    intro e
    rw [Go.ByteArray.toList_eq, Go.ByteArray.toList_eq] at e
    exact h (ByteArray.ext (Array.ext' e))
end Go.Proofs.YtbpmjejmeaifbaaGreatDoor
namespace Go.Proofs.YtbpmjejmeaifbaaGreatDoor
open Go.RowKit
open Num
set_option linter.unusedVariables false
/-- Signatures in cells from a place on. -/
def SAt (w : World) (b o : Nat) (l : List Sg) : Prop := ∀ j (hj : j < l.length), w.cell? ⟨b, o + j * 2, none⟩ = some (.int .i64 l[j].v) ∧ w.cell? ⟨b, o + j * 2 + 1, none⟩ = some (.string l[j].s)
/-- .. where a slice says, if any. -/
def SO (w : World) (a : Option Addr) (l : List Sg) : Prop := l.length = 0 ∨ ∃ b o, a = some ⟨b, o, none⟩ ∧ SAt w b o l
theorem SAt.lt {w : World} {b o : Nat} {l : List Sg} (h : SAt w b o l) (h0 : 0 < l.length) : b < w.heap.size := World.block_lt_of_cell? w _ (h 0 h0).1
theorem SAt.below {w w' : World} {B b o : Nat} {l : List Sg} (h : SAt w b o l) (hb : Below B w w') (hB : b < B) : SAt w' b o l := fun j hj => by
  obtain ⟨h1, h2⟩ := h j hj
  exact ⟨(hb.cell (p := ⟨b, o + j * 2, none⟩) hB).trans h1, (hb.cell (p := ⟨b, o + j * 2 + 1, none⟩) hB).trans h2⟩
theorem SO.below {w w' : World} {a : Option Addr} {l : List Sg} (h : SO w a l) (hb : Below w.heap.size w w') : SO w' a l := by
  rcases h with h | ⟨b, o, h1, h2⟩
  · exact .inl h
  · rcases Nat.eq_zero_or_pos l.length with h0 | h0
    · exact .inl h0
    · exact .inr ⟨b, o, h1, h2.below hb (h2.lt h0)⟩
theorem SAt.o {w : World} {b o : Nat} {l : List Sg} (h : SAt w b o l) : SO w (some ⟨b, o, none⟩) l := .inr ⟨b, o, rfl, h⟩
def sgV (x : Sg) : Value := .agg #[.int .i64 x.v, .string x.s]
def sgc (x : Sg) : List Value := [.int .i64 x.v, .string x.s]
def cV (x : Ct) (a : Option Addr) (cap : Nat) : Value := .agg #[.int .i64 x.h, .int .i64 x.r, .string x.i, .slice a x.l.length cap]
def ccs (x : Ct) (a : Option Addr) (cap : Nat) : List Value := [.int .i64 x.h, .int .i64 x.r, .string x.i, .slice a x.l.length cap]
theorem below_two (w : World) (o o' : Obj) : Below w.heap.size w ((w.alloc o).alloc o') := ((Below.refl _ _).alloc (Nat.le_refl _) _).alloc (by simp) _
theorem below_one (w : World) (o : Obj) : Below w.heap.size w (w.alloc o) := (Below.refl _ _).alloc (Nat.le_refl _) _
end Go.Proofs.YtbpmjejmeaifbaaGreatDoor
