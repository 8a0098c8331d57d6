/- What signerAfter answers: a signer when deeds were done with it, in a row of its own. Conditions: small texts, rows of at most 2 to the 20 votes. -/
import Derived.Test.YtmjlpdmdpagggaaCs
namespace Go.Proofs.Ytmjlpdmdpagggaa
open Go.RowKit
open Num
set_option linter.unusedVariables false
inductive Deed where
  | hold (y : Vt)
  | sync
  | tell (y : Vt)
  | fall
def dV : Deed → Value
  | .hold y => .iface 63 (.agg #[.int .i64 y.h, .int .i64 y.r, .int .i64 y.s, .string y.i, .int .i64 y.v])
  | .sync => .iface 69 (.agg #[])
  | .tell y => .iface 65 (.agg #[.int .i64 y.h, .int .i64 y.r, .int .i64 y.s, .string y.i, .int .i64 y.v])
  | .fall => .iface 72 (.agg #[])
def act (x : Sg) : Deed → Sg
  | .hold y => ⟨x.v, x.d, ofV y, true, x.o⟩
  | .sync => ⟨x.v, x.m, x.m, false, x.o⟩
  | .tell y => ⟨x.v, x.d, x.m, x.p, x.o ++ [y]⟩
  | .fall => ⟨x.v, x.d, x.d, false, x.o⟩
def acts (x : Sg) (ds : List Deed) : Sg := ds.foldl act x
theorem acts_snoc (x : Sg) (ds : List Deed) (k : Nat) (hk : k < ds.length) : acts x (ds.take (k + 1)) = act (acts x (ds.take k)) ds[k] := by
  unfold acts
  rw [List.take_succ_eq_append_getElem hk, List.foldl_append]; rfl
def SmD : Deed → Prop
  | .hold y => SmV y
  | .tell y => SmV y
  | _ => True
def SmS (x : Sg) : Prop := x.d.i.size ≤ 1048576 ∧ x.m.i.size ≤ 1048576 ∧ ∀ y ∈ x.o, SmV y
theorem SmS.act {x : Sg} (h : SmS x) (d : Deed) (hd : SmD d) : SmS (act x d) := by
  cases d with
  | hold y => exact ⟨h.1, hd, h.2.2⟩
  | sync => exact ⟨h.2.1, h.2.1, h.2.2⟩
  | tell y => exact ⟨h.1, h.2.1, fun z hz => by
      rcases List.mem_append.1 hz with hz | hz
      · exact h.2.2 z hz
      · rw [List.mem_singleton.1 hz]; exact hd⟩
  | fall => exact ⟨h.1, h.1, h.2.2⟩
theorem act_len (x : Sg) (d : Deed) : (act x d).o.length ≤ x.o.length + 1 := by
  cases d <;> simp [act]
def DAt (w : World) (a : Option Addr) (ds : List Deed) : Prop := ds.length = 0 ∨ ∃ b, a = some ⟨b, 0, none⟩ ∧ b < w.heap.size ∧ ∀ j (hj : j < ds.length), w.cell? ⟨b, j, none⟩ = some (dV ds[j])
/-- A row that does not lie in the block X. -/
def YN (X : Nat) (w : World) (a : Option Addr) (l : List Vt) : Prop := l.length = 0 ∨ ∃ b o, a = some ⟨b, o, none⟩ ∧ b ≠ X ∧ YAt w b o l
theorem YN.o {X : Nat} {w : World} {a : Option Addr} {l : List Vt} (h : YN X w a l) : YO w a l := by
  rcases h with h | ⟨b, o, h1, _, h2⟩
  · exact .inl h
  · exact .inr ⟨b, o, h1, h2⟩
theorem YN.below {X : Nat} {w w' : World} {a : Option Addr} {l : List Vt} (h : YN X w a l) (hb : Below w.heap.size w w') : YN X w' a l := by
  rcases h with h | ⟨b, o, h1, h3, h2⟩
  · exact .inl h
  · rcases Nat.eq_zero_or_pos l.length with h0 | h0
    · exact .inl h0
    · exact .inr ⟨b, o, h1, h3, h2.below hb (h2.lt h0)⟩
theorem YN.set {X : Nat} {w w' : World} {a : Option Addr} {l : List Vt} (h : YN X w a l) (hg : w.grownBy w' (some X)) : YN X w' a l := by
  rcases h with h | ⟨b, o, h1, h3, h2⟩
  · exact .inl h
  · exact .inr ⟨b, o, h1, h3, h2.grown hg (fun e => h3 (by injection e with e; exact e.symm))⟩
theorem YO.n {X : Nat} {w : World} {a : Option Addr} {l : List Vt} (h : YO w a l) (hX : w.heap.size ≤ X) : YN X w a l := by
  rcases h with h | ⟨b, o, h1, h2⟩
  · exact .inl h
  · rcases Nat.eq_zero_or_pos l.length with h0 | h0
    · exact .inl h0
    · exact .inr ⟨b, o, h1, by have := h2.lt h0; omega, h2⟩
theorem OwnY.n {X B qc : Nat} {w : World} {qa : Option Addr} {l : List Vt} (h : OwnY w B (.slice qa l.length qc) l) (hX : X < B) : YN X w qa l := by
  rcases Nat.eq_zero_or_pos l.length with h0 | h0
  · exact .inl h0
  · obtain ⟨g, h1, h2, _, h3, _⟩ := h.row h0
    exact .inr ⟨g, 0, h1, by omega, h3⟩
theorem OwnY.fit {B qc : Nat} {w : World} {qa : Option Addr} {l : List Vt} (h : OwnY w B (.slice qa l.length qc) l) : (qa = none → qc = 0) ∧ l.length ≤ qc ∧ qc ≤ 9223372036854775807 := by
  rcases h.2 with ⟨e, hn⟩ | ⟨g, cap, cur, e, hB, hg, hnc, hcm, _⟩
  · simp only [Value.slice.injEq] at e
    obtain ⟨rfl, _, rfl⟩ := e
    exact ⟨fun _ => rfl, by omega, by omega⟩
  · simp only [Value.slice.injEq] at e
    obtain ⟨rfl, _, rfl⟩ := e
    exact ⟨fun e => (by cases e), hnc, hcm⟩
theorem one_v (w : World) (y : Vt) (g : Nat) (hg : g = w.heap.size) : ∀ j u, (yLs y)[j]? = some u → (w.alloc (.cells #[.int .i64 y.h, .int .i64 y.r, .int .i64 y.s, .string y.i, .int .i64 y.v] 31)).cell? ((⟨g, 0, none⟩ : Addr).add j) = some u := by
  intro j u hj
  subst hg
  rw [add_at, cell_of_row _ _ j #[.int .i64 y.h, .int .i64 y.r, .int .i64 y.s, .string y.i, .int .i64 y.v] 31 (0, 0) (heap_alloc_new _ _)]
  rw [← hj]; simp [yLs]
theorem as_hold_yes (W : World) (v : Value) : (Instr.typeAssert (.iface 63 v) 95 63 true).run Try.prog W = .ok (.tuple #[v, .bool true]) W := by kernel_rfl
theorem as_hold_sync (W : World) (v : Value) : (Instr.typeAssert (.iface 69 v) 95 63 true).run Try.prog W = .ok (.tuple #[.agg #[.int .i64 0, .int .i64 0, .int .i64 0, .string ⟨#[]⟩, .int .i64 0], .bool false]) W := by kernel_rfl
theorem as_hold_tell (W : World) (v : Value) : (Instr.typeAssert (.iface 65 v) 95 63 true).run Try.prog W = .ok (.tuple #[.agg #[.int .i64 0, .int .i64 0, .int .i64 0, .string ⟨#[]⟩, .int .i64 0], .bool false]) W := by kernel_rfl
theorem as_hold_fall (W : World) (v : Value) : (Instr.typeAssert (.iface 72 v) 95 63 true).run Try.prog W = .ok (.tuple #[.agg #[.int .i64 0, .int .i64 0, .int .i64 0, .string ⟨#[]⟩, .int .i64 0], .bool false]) W := by kernel_rfl
theorem as_sync_yes (W : World) (v : Value) : (Instr.typeAssert (.iface 69 v) 95 69 true).run Try.prog W = .ok (.tuple #[v, .bool true]) W := by kernel_rfl
theorem as_sync_hold (W : World) (v : Value) : (Instr.typeAssert (.iface 63 v) 95 69 true).run Try.prog W = .ok (.tuple #[.agg #[], .bool false]) W := by kernel_rfl
theorem as_sync_tell (W : World) (v : Value) : (Instr.typeAssert (.iface 65 v) 95 69 true).run Try.prog W = .ok (.tuple #[.agg #[], .bool false]) W := by kernel_rfl
theorem as_sync_fall (W : World) (v : Value) : (Instr.typeAssert (.iface 72 v) 95 69 true).run Try.prog W = .ok (.tuple #[.agg #[], .bool false]) W := by kernel_rfl
theorem as_tell_yes (W : World) (v : Value) : (Instr.typeAssert (.iface 65 v) 95 65 true).run Try.prog W = .ok (.tuple #[v, .bool true]) W := by kernel_rfl
theorem as_tell_hold (W : World) (v : Value) : (Instr.typeAssert (.iface 63 v) 95 65 true).run Try.prog W = .ok (.tuple #[.agg #[.int .i64 0, .int .i64 0, .int .i64 0, .string ⟨#[]⟩, .int .i64 0], .bool false]) W := by kernel_rfl
theorem as_tell_sync (W : World) (v : Value) : (Instr.typeAssert (.iface 69 v) 95 65 true).run Try.prog W = .ok (.tuple #[.agg #[.int .i64 0, .int .i64 0, .int .i64 0, .string ⟨#[]⟩, .int .i64 0], .bool false]) W := by kernel_rfl
theorem as_tell_fall (W : World) (v : Value) : (Instr.typeAssert (.iface 72 v) 95 65 true).run Try.prog W = .ok (.tuple #[.agg #[.int .i64 0, .int .i64 0, .int .i64 0, .string ⟨#[]⟩, .int .i64 0], .bool false]) W := by kernel_rfl
theorem as_fall_yes (W : World) (v : Value) : (Instr.typeAssert (.iface 72 v) 95 72 true).run Try.prog W = .ok (.tuple #[v, .bool true]) W := by kernel_rfl
theorem as_fall_hold (W : World) (v : Value) : (Instr.typeAssert (.iface 63 v) 95 72 true).run Try.prog W = .ok (.tuple #[.agg #[], .bool false]) W := by kernel_rfl
theorem as_fall_sync (W : World) (v : Value) : (Instr.typeAssert (.iface 69 v) 95 72 true).run Try.prog W = .ok (.tuple #[.agg #[], .bool false]) W := by kernel_rfl
theorem as_fall_tell (W : World) (v : Value) : (Instr.typeAssert (.iface 65 v) 95 72 true).run Try.prog W = .ok (.tuple #[.agg #[], .bool false]) W := by kernel_rfl
end Go.Proofs.Ytmjlpdmdpagggaa
