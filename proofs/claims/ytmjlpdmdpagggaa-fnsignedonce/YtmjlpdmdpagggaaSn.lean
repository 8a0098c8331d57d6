/- Signers in plain terms and as values; what each call leaves of one. Conditions: none of ours. -/
import Derived.Test.YtmjlpdmdpagggaaLw
namespace Go.Proofs.Ytmjlpdmdpagggaa
open Go.RowKit
open Num
set_option linter.unusedVariables false
/-- A signer: validator, guard on disk, guard in mind, whether one waits, what is out. -/
structure Sg where
  v : Int
  d : Gt
  m : Gt
  p : Bool
  o : List Vt
def zSg : Sg := ⟨0, gz, gz, false, []⟩
def sL (x : Sg) (q : Value) : List Value := [.int .i64 x.v, .int .i64 x.d.h, .int .i64 x.d.r, .int .i64 x.d.s, .string x.d.i, .int .i64 x.m.h, .int .i64 x.m.r, .int .i64 x.m.s, .string x.m.i, .bool x.p, q]
def sQ (x : Sg) (q : Value) : Value := .agg #[.int .i64 x.v, .int .i64 x.d.h, .int .i64 x.d.r, .int .i64 x.d.s, .string x.d.i, .int .i64 x.m.h, .int .i64 x.m.r, .int .i64 x.m.s, .string x.m.i, .bool x.p, q]
def sV (x : Sg) (a : Option Addr) (cap : Nat) : Value := sQ x (.slice a x.o.length cap)
def outB (n : Int) (y : Vt) : Bool := voB y && decide (y.v = n)
def sOk (x : Sg) : Bool := inIs x.v 1 99 && (gOk x.d && (gOk x.m && ((x.p || geB x.d x.m) && ((!x.p || !(geB x.m gz)) && (decide (x.o.length ≤ 60) && x.o.all (outB x.v))))))
theorem sOk_len {x : Sg} (h : sOk x = true) : x.o.length ≤ 60 := by
  unfold sOk at h; simp only [Bool.and_eq_true, decide_eq_true_eq] at h; exact h.2.2.2.2.2.1
/-- What a sync leaves. -/
def synO (x : Sg) : List Vt := if x.o.length < 60 then x.o ++ [gvo x.m x.v] else x.o
def synS (x : Sg) : Sg × Bool := bif sOk x then (bif x.p then (⟨x.v, x.m, x.m, false, synO x⟩, true) else (x, false)) else (zSg, false)
/-- What a fall leaves. -/
def fallS (x : Sg) : Sg × Bool := bif sOk x then (⟨x.v, x.d, x.d, false, x.o⟩, true) else (zSg, false)
theorem synO_len (x : Sg) (h : x.o.length ≤ 60) : (synO x).length ≤ 61 := by
  unfold synO; split
  · simp; omega
  · omega
theorem synS_len (x : Sg) : (synS x).1.o.length ≤ 61 := by
  unfold synS
  cases h : sOk x
  · show 0 ≤ 61; omega
  · have h1 := sOk_len h
    cases x.p
    · show x.o.length ≤ 61; omega
    · exact synO_len x h1
theorem fallS_len (x : Sg) : (fallS x).1.o.length ≤ 61 := by
  unfold fallS
  cases h : sOk x
  · show 0 ≤ 61; omega
  · have h1 := sOk_len h
    show x.o.length ≤ 61; omega
/-- What may be marked: nothing, or a row from B on. -/
def Mk (w : World) (B : Nat) (a : Option Addr) (n : Nat) : Prop := n = 0 ∨ ∃ b, a = some ⟨b, 0, none⟩ ∧ B ≤ b ∧ b < w.heap.size ∧ Room w b 0 (n * 5)
theorem Mk.below {w w' : World} {B n : Nat} {a : Option Addr} (h : Mk w B a n) (hb : Below w.heap.size w w') : Mk w' B a n := by
  rcases h with h | ⟨b, h1, h2, h3, h4⟩
  · exact .inl h
  · exact .inr ⟨b, h1, h2, by have := hb.size; omega, h4.below hb⟩
theorem Mk.lt {w : World} {B n : Nat} {a : Option Addr} (h : Mk w B a n) (hn : 0 < n) : ∀ b o, a = some ⟨b, o, none⟩ → B ≤ b ∧ b < w.heap.size := fun b o e => by
  rcases h with h | ⟨b', h1, h2, h3, h4⟩
  · omega
  · rw [h1] at e; injection e with e; injection e with e1; subst e1; exact ⟨h2, h3⟩
theorem Yop.mk {w : World} {B : Nat} {l : List Vt} {a : Option Addr} (h : Yop w B l a) : Mk w B a l.length := by
  obtain ⟨b, rfl, h0, h1, h2, h3⟩ := h
  exact .inr ⟨b, rfl, h0, h1, h3⟩
theorem Room.grown {w w' : World} {b o n : Nat} {r : Option Nat} (h : Room w b o n) (hg : w.grownBy w' r) (hr : r ≠ some b) (hb : b < w.heap.size) : Room w' b o n := fun j hj => by
  have e := hg.block b hb (fun e => hr e.symm)
  obtain ⟨h1, h2⟩ := h j hj
  exact ⟨by rw [World.cell?_of_block (w := w) (a := ⟨b, o + j, none⟩) e]; exact h1, by rw [World.frozen?_of_block (w := w) (a := ⟨b, o + j, none⟩) e]; exact h2⟩
theorem Yop.still {w w' : World} {B : Nat} {l : List Vt} {a : Option Addr} {r : Option Nat} (h : Yop w B l a) (hg : w.grownBy w' r) (hr : ∀ j, r = some j → j < B) : Yop w' B l a := by
  obtain ⟨b, rfl, h0, h1, h2, h3⟩ := h
  have hne : r ≠ some b := fun e => by have := hr b e; omega
  exact ⟨b, rfl, h0, by have := hg.size; omega, h2.grown hg hne, h3.grown hg hne h1⟩
theorem Yop.less {w : World} {B B' : Nat} {l : List Vt} {a : Option Addr} (h : Yop w B l a) (hB : B' ≤ B) : Yop w B' l a := by
  obtain ⟨b, rfl, h0, h1⟩ := h
  exact ⟨b, rfl, by omega, h1⟩
/-- A row that was answered: it lies from B on, below C, and may be marked. -/
def Rdd (W : World) (B C : Nat) (l : List Vt) (a : Option Addr) : Prop := YO W a l ∧ (∀ b o, a = some ⟨b, o, none⟩ → b < C) ∧ Mk W B a l.length
theorem OwnY.rdd {W : World} {B : Nat} {l : List Vt} {q : Value} (h : OwnY W B q l) : ∃ a cap, q = .slice a l.length cap ∧ Rdd W B W.heap.size l a := by
  have h' := h
  obtain ⟨a, cap, rfl, h1, _, _⟩ := OwnY.o h
  refine ⟨a, cap, rfl, h1, fun b o e => ?_, ?_⟩
  · subst e
    rcases h.2 with ⟨e, hn⟩ | ⟨g, cap', cur, e, hB, hg, hnc, hcm, _⟩
    · simp at e
    · simp only [Value.slice.injEq, Option.some.injEq, Addr.mk.injEq] at e
      obtain ⟨⟨rfl, _, _⟩, _, _⟩ := e
      exact (Array.getElem?_eq_some_iff.1 hg).1
  · rcases h.2 with ⟨e, hn⟩ | ⟨g, cap', cur, e, hB, hg, hnc, hcm, _⟩
    · exact .inl hn
    · simp only [Value.slice.injEq] at e
      obtain ⟨rfl, _, rfl⟩ := e
      refine .inr ⟨g, rfl, hB, (Array.getElem?_eq_some_iff.1 hg).1, fun j hj => ?_⟩
      rw [Nat.zero_add]
      refine ⟨?_, h'.frozenAt j⟩
      have hl : (ycs l).length = l.length * 5 := flat_len yLs 5 (fun _ => rfl) l
      rw [h'.cellAt j (by omega), List.getElem?_eq_getElem (by omega)]; rfl
end Go.Proofs.Ytmjlpdmdpagggaa
