/- A validator with its guard, in plain terms: of what it lets out no two of one place are of two blocks. Conditions: none of ours. -/
import Derived.Test.YtmjlpdmdpagggaaFs14a
namespace Go.Proofs.Ytmjlpdmdpagggaa
open Go.RowKit
open Num
set_option linter.unusedVariables false
/-- A place: height, round and step in one number. -/
def ky (h r s : Int) : Int := h * 8000 + r * 4 + s
def kg (g : Gt) : Int := ky g.h g.r g.s
def kv (y : Vt) : Int := ky y.h y.r y.s
theorem gOk_in {g : Gt} (h : gOk g = true) : 0 ≤ g.r ∧ g.r ≤ 1000 ∧ 0 ≤ g.s ∧ g.s ≤ 2 := by
  unfold gOk at h
  rcases Bool.or_eq_true_iff.1 h with h | h
  · rw [geB_iff.1 h]; exact (show (0 : Int) ≤ 0 ∧ (0 : Int) ≤ 1000 ∧ (0 : Int) ≤ 0 ∧ (0 : Int) ≤ 2 by omega)
  · have h1 := (voB_iff _).1 h
    exact ⟨h1.2.1.1, h1.2.1.2, by have := h1.2.2.1.1; exact (show (0 : Int) ≤ g.s from by have h2 : (1 : Int) ≤ g.s := this; omega), h1.2.2.1.2⟩
theorem may_parts {g : Gt} {x : Vt} (h : mayS g x ≠ 2) : mayS g x = may3 x.h x.r x.s g.h g.r g.s (decide (x.i = g.i)) := by
  have h1 := may_ne h
  unfold mayS
  rw [h1.1, h1.2]; rfl
theorem may_zero {g : Gt} {x : Vt} (h : mayS g x = 0) : kg g < kv x := by
  have hne : mayS g x ≠ 2 := by rw [h]; decide
  have h1 := may_ne hne
  have h2 := gOk_in h1.1
  have h3 := (voB_iff x).1 h1.2
  rw [may_parts hne] at h
  unfold may3 at h
  unfold kg kv ky
  repeat' split at h
  all_goals omega
theorem may_one {g : Gt} {x : Vt} (h : mayS g x = 1) : kv x = kg g ∧ x.i = g.i := by
  have hne : mayS g x ≠ 2 := by rw [h]; decide
  rw [may_parts hne] at h
  unfold may3 at h
  split at h
  · omega
  split at h
  · omega
  split at h
  · omega
  split at h
  · omega
  split at h
  · omega
  split at h
  · omega
  split at h
  · rename_i hs
    exact ⟨by unfold kg kv ky; omega, of_decide_eq_true hs⟩
  · omega
structure Inv (x : Sg) : Prop where
  ok : sOk x = true
  le : ∀ y ∈ x.o, kv y ≤ kg x.d
  eq : ∀ y ∈ x.o, kv y = kg x.d → y.i = x.d.i
  pr : ∀ y ∈ x.o, ∀ z ∈ x.o, kv y = kv z → y.i = z.i
  up : x.p = true → kg x.d < kg x.m
theorem gOk_zero : gOk gz = true := by unfold gOk; rw [geB_iff.2 rfl]; rfl
theorem inv_new {n : Int} (h0 : 1 ≤ n) (h1 : n ≤ 99) : Inv ⟨n, gz, gz, false, []⟩ :=
  ⟨(sOk_iff _).2 ⟨(in_iff _ _ _).2 ⟨h0, h1⟩, gOk_zero, gOk_zero, .inr rfl, (fun e => by cases e), Nat.zero_le _, (fun y hy => by cases hy)⟩, (fun y hy => by cases hy), (fun y hy => by cases hy), (fun y hy => by cases hy), (fun e => by cases e)⟩
theorem Inv.ask {x : Sg} (h : Inv x) (y : Vt) : Inv (askS x y).1 := by
  have hr := ask_right (y := y) h.ok
  cases hp : x.p
  · by_cases hv : y.v = x.v
    · by_cases h60 : x.o.length < 60
      · have hdm : x.d = x.m := by
          rcases ((sOk_iff x).1 h.ok).2.2.2.1 with e | e
          · rw [hp] at e; cases e
          · exact e
        by_cases hm : mayS x.m y = 0
        · rw [askS_ok h.ok hp hv h60 hm] at hr ⊢
          exact ⟨hr, h.le, h.eq, h.pr, fun _ => by
            show kg x.d < kg (ofV y)
            rw [hdm]; exact may_zero hm⟩
        · by_cases h1 : mayS x.m y = 1
          · rw [askS_same h.ok hp hv h60 h1] at hr ⊢
            obtain ⟨hk, hi⟩ := may_one h1
            rw [← hdm] at hk hi
            refine ⟨hr, fun z hz => ?_, fun z hz e => ?_, fun z hz u hu e => ?_, fun e => ?_⟩
            · show kv z ≤ kg x.d
              rcases List.mem_append.1 hz with hz | hz
              · exact h.le z hz
              · rw [List.mem_singleton.1 hz]; omega
            · show z.i = x.d.i
              rcases List.mem_append.1 hz with hz | hz
              · exact h.eq z hz e
              · rw [List.mem_singleton.1 hz]; exact hi
            · rcases List.mem_append.1 hz with hz | hz <;> rcases List.mem_append.1 hu with hu | hu
              · exact h.pr z hz u hu e
              · rw [List.mem_singleton.1 hu] at e ⊢
                rw [hi]; exact h.eq z hz (by omega)
              · rw [List.mem_singleton.1 hz] at e ⊢
                rw [hi]; exact (h.eq u hu (by omega)).symm
              · rw [List.mem_singleton.1 hz, List.mem_singleton.1 hu]
            · have e' : x.p = true := e
              rw [hp] at e'; cases e'
          · rw [askS_rest h.ok hp hv h60 hm h1]; exact h
      · rw [askS_full h.ok h60]; exact h
    · rw [askS_other h.ok hv]; exact h
  · rw [askS_pend h.ok hp]; exact h
theorem Inv.syn {x : Sg} (h : Inv x) : Inv (synS x).1 := by
  have hr := (syn_right h.ok).1
  have hS : synS x = bif x.p then (⟨x.v, x.m, x.m, false, synO x⟩, true) else (x, false) := by unfold synS; rw [h.ok]; rfl
  cases hp : x.p
  · have e : synS x = (x, false) := by rw [hS, hp]; rfl
    rw [e]; exact h
  · have e : synS x = (⟨x.v, x.m, x.m, false, synO x⟩, true) := by rw [hS, hp]; rfl
    have hup := h.up hp
    rw [e] at hr ⊢
    have hmem : ∀ z ∈ synO x, z ∈ x.o ∨ z = gvo x.m x.v := fun z hz => by
      unfold synO at hz
      split at hz
      · rcases List.mem_append.1 hz with hz | hz
        · exact .inl hz
        · exact .inr (List.mem_singleton.1 hz)
      · exact .inl hz
    have hkm : kv (gvo x.m x.v) = kg x.m := rfl
    refine ⟨hr, fun z hz => ?_, fun z hz e => ?_, fun z hz u hu e => ?_, (fun e => by cases e)⟩
    · show kv z ≤ kg x.m
      rcases hmem z hz with hz | rfl
      · have := h.le z hz; omega
      · omega
    · have e' : kv z = kg x.m := e
      rcases hmem z hz with hz | rfl
      · have := h.le z hz; omega
      · rfl
    · rcases hmem z hz with hz | rfl <;> rcases hmem u hu with hu | rfl
      · exact h.pr z hz u hu e
      · have := h.le z hz; omega
      · have := h.le u hu; omega
      · rfl
theorem Inv.fall {x : Sg} (h : Inv x) : Inv (fallS x).1 := by
  have hr := (fall_right h.ok).1
  have e : fallS x = (⟨x.v, x.d, x.d, false, x.o⟩, true) := by unfold fallS; rw [h.ok]; rfl
  rw [e] at hr ⊢
  exact ⟨hr, h.le, h.eq, h.pr, (fun e => by cases e)⟩
/-- Two votes let out, of one height, round and step, are of one block. -/
theorem Inv.pair {x : Sg} (h : Inv x) {i j : Nat} (hi : i < x.o.length) (hj : j < x.o.length) (h0 : x.o[i].h = x.o[j].h) (h1 : x.o[i].r = x.o[j].r) (h2 : x.o[i].s = x.o[j].s) : x.o[i].i = x.o[j].i :=
  h.pr _ (List.getElem_mem hi) _ (List.getElem_mem hj) (by unfold kv ky; rw [h0, h1, h2])
end Go.Proofs.Ytmjlpdmdpagggaa
