/- What the laws' helpers eqIntS, markIntS and heldIntS answer; only the marked row is written. Conditions: rows of at most 2 to the 20 numbers. -/
import Derived.Test.YtclajbadeclbdaaDoorLq
namespace Go.Proofs.YtclajbadeclbdaaDoor
open Go.RowKit
open Num
set_option linter.unusedVariables false
/-- Numbers where a slice says, if any. -/
def NumsO (w : World) (a : Option Addr) (l : List Int) : Prop := l.length = 0 ∨ ∃ b o, a = some ⟨b, o, none⟩ ∧ IAt w b o l
theorem NumsO.below {w w' : World} {a : Option Addr} {l : List Int} (h : NumsO w a l) (hb : Below w.heap.size w w') : NumsO w' a l := by
  rcases h with h | ⟨b, o, h1, h2⟩
  · exact .inl h
  · exact .inr ⟨b, o, h1, h2.below hb⟩
theorem NumsO.far {w w' : World} {a : Option Addr} {l : List Int} {r : Option Nat} {B : Nat} (h : NumsO w a l) (hg : w.grownBy w' r) (ha : ∀ b o, a = some ⟨b, o, none⟩ → b < B) (hB : ∀ j, r = some j → B ≤ j) : NumsO w' a l := by
  rcases h with h | ⟨b, o, rfl, h2⟩
  · exact .inl h
  · refine .inr ⟨b, o, rfl, fun j hj => ?_⟩
    have h3 := h2 j hj
    have hlt := World.block_lt_of_cell? w _ h3
    have hbl := hg.block b hlt (fun e => by have := ha b o rfl; have := hB b e.symm; omega)
    rw [World.cell?_of_block (w := w) (a := ⟨b, o + j, none⟩) hbl]; exact h3
set_option maxHeartbeats 800000 in
set_option maxRecDepth 100000 in
theorem eq_ints (a a' : Option Addr) (l : List Int) (cap cap' : Nat) (w : World) (hl : NumsO w a l) (hl' : NumsO w a' l) (h1 : l.length ≤ 1048576) :
    Calls Tryd.prog 24 #[.slice a l.length cap, .slice a' l.length cap'] w fun e w' => e = .returned (.bool true) ∧ Below w.heap.size w w' := by
  have HL : Hid (NumsO w a l) := hl
  have HL' : Hid (NumsO w a' l) := hl'
  clear hl hl'
  go_enter Tryd.func24, Tryd.ntmps24
  go_wp2
  go_loopw [5] (fun iv wr => ∃ k : Nat, k ≤ l.length ∧ iv = .int .i64 k ∧ Below w.heap.size w wr) (fun iv _ => l.length - (intOf iv).toNat)
  case atStart => exact ⟨0, Nat.zero_le _, rfl, Below.refl _ _⟩
  case round =>
    obtain ⟨k, hk, rfl, hb⟩ := hrel
    by_cases hlt : k < l.length
    · have hltz : (k : Int) < (l.length : Int) := by omega
      rcases HL.out with h0 | ⟨b, o, rfl, hv0⟩
      · omega
      rcases HL'.out with h0 | ⟨b', o', rfl, hv0'⟩
      · omega
      have hn := bel_some wr
      have q := (hv0.below hb) k hlt
      have q' := (hv0'.below hb) k hlt
      have c1 := fun p : Bel wr => p.cell q
      have c2 := fun p : Bel wr => p.cell q'
      generalize l[k] = y at *
      clear hv0 hv0' q q'
      go_wp2_with fail
      refine wp_region_below (by kernel_rfl) (by kernel_rfl) ?_
      repeat (go_big_quiet_step (fail))
      refine wpQuiet_nil ?_
      intro _ hw'
      obtain ⟨pq, hw''⟩ := hw'
      subst hw''
      have hb3 := hb.trans (pq.h.mono hb.size)
      clear c1 c2
      go_wp2
      go_roundw
      case rel => exact ⟨k + 1, by omega, by go_num, hb3⟩
      case measure => simp [intOf]; omega
    · have hltz : ¬ (k : Int) < (l.length : Int) := by omega
      go_wp2
      go_ret
      exact ⟨rfl, hb⟩
/-- So many numbers, from k on. -/
def ims (k n : Nat) : List Int := (List.range n).map fun j => ((k + j : Nat) : Int)
theorem ims_length (k n : Nat) : (ims k n).length = n := by simp [ims]
theorem ims_at (k n j : Nat) (h : j < (ims k n).length) : (ims k n)[j] = ((k + j : Nat) : Int) := by simp [ims]
set_option maxHeartbeats 800000 in
set_option maxRecDepth 100000 in
theorem mark_ints (b cap n k : Nat) (w : World) (hr : Room w b 0 n) (hn : n ≤ 1048576) (hk : k ≤ 1048576) :
    Calls Tryd.prog 27 #[.slice (some ⟨b, 0, none⟩) n cap, .int .i64 (k : Int)] w fun e w' => e = .returned (.int .i64 ((k + n : Nat) : Int)) ∧ IAt w' b 0 (ims k n) ∧ w.grownBy w' (some b) := by
  have HR0 : Hid (Room w b 0 n) := hr
  clear hr
  go_enter Tryd.func27, Tryd.ntmps27
  go_wp2
  go_loopw [5, 1] (fun iv kv wr => ∃ j : Nat, j ≤ n ∧ iv = .int .i64 j ∧ kv = .int .i64 ((k + j : Nat) : Int) ∧ Hid (∀ i, i < j → wr.cell? ⟨b, i, none⟩ = some (.int .i64 ((k + i : Nat) : Int))) ∧ Hid (Room wr b 0 n) ∧ Hid (w.grownBy wr (some b))) (fun iv _ _ => n - (intOf iv).toNat)
  case atStart => exact ⟨0, Nat.zero_le _, rfl, by simp, (fun j hj => absurd hj (by omega)), HR0, gr_refl _ _⟩
  case round =>
    obtain ⟨j, hj, rfl, rfl, HA, HR, HG⟩ := hrel
    by_cases hlt : j < n
    · have hltz : (j : Int) < (n : Int) := by omega
      obtain ⟨s1, f1⟩ := HR.out j hlt
      rw [Nat.zero_add] at s1 f1
      obtain ⟨u1, e1⟩ := Option.isSome_iff_exists.1 s1
      clear s1
      have HR1 : Hid (Room (wr.setCell ⟨b, j, none⟩ (.int .i64 ((k + j : Nat) : Int))) b 0 n) := HR.out.set _ _ _
      have HG1 : Hid (w.grownBy (wr.setCell ⟨b, j, none⟩ (.int .i64 ((k + j : Nat) : Int))) (some b)) := gr_trans HG.out (gr_set _ _ _ _)
      have HA1 : Hid (∀ i, i < j + 1 → (wr.setCell ⟨b, j, none⟩ (.int .i64 ((k + j : Nat) : Int))).cell? ⟨b, i, none⟩ = some (.int .i64 ((k + i : Nat) : Int))) := fun i hi => by
        by_cases e : i = j
        · subst e; exact World.cell?_setCell_same _ _ _ e1
        · rw [World.cell?_setCell_other wr ⟨b, j, none⟩ ⟨b, i, none⟩ _ (fun e' => by injection e'; omega)]; exact HA.out i (by omega)
      have HE : Hid (((k + j : Nat) : Int) + 1 = ((k + (j + 1) : Nat) : Int)) := by show _ = _; omega
      have hK0 : 0 ≤ ((k + j : Nat) : Int) := by omega
      have hK1 : ((k + j : Nat) : Int) ≤ 1099511627776 := by omega
      generalize ((k + j : Nat) : Int) = K at *
      clear HA HR HG
      go_wp2
      go_roundw
      case rel => exact ⟨j + 1, by omega, by go_num, by rw [← HE.out], HA1, HR1, HG1⟩
      case measure => simp [intOf]; omega
    · have hltz : ¬ (j : Int) < (n : Int) := by omega
      have hjn : j = n := by omega
      subst hjn
      have HF : Hid (IAt wr b 0 (ims k j)) := fun i hi => by
        rw [Nat.zero_add, ims_at]; exact HA.out i (by rw [ims_length] at hi; exact hi)
      go_wp2
      go_ret
      exact ⟨rfl, HF.out, HG.out⟩
set_option maxHeartbeats 400000 in
set_option maxRecDepth 100000 in
theorem mark_nilI (a : Option Addr) (cap k : Nat) (w : World) :
    Calls Tryd.prog 27 #[.slice a 0 cap, .int .i64 (k : Int)] w fun e w' => e = .returned (.int .i64 (k : Int)) ∧ w' = w := by
  go_enter Tryd.func27, Tryd.ntmps27
  go_wp2
  refine wp_loop_rounds 1 ?_
  rw [rounds_succ]
  go_wp2
  go_ret
  exact ⟨rfl, rfl⟩
/-- What may be marked: nothing, or a row from B on. -/
def MkI (w : World) (B : Nat) (a : Option Addr) (n : Nat) : Prop := n = 0 ∨ ∃ b, a = some ⟨b, 0, none⟩ ∧ B ≤ b ∧ b < w.heap.size ∧ Room w b 0 n
theorem MkI.below {w w' : World} {B n : Nat} {a : Option Addr} (h : MkI w B a n) (hb : Below w.heap.size w w') : MkI w' B a n := by
  rcases h with h | ⟨b, h1, h2, h3, h4⟩
  · exact .inl h
  · exact .inr ⟨b, h1, h2, by have := hb.size; omega, h4.below hb⟩
theorem MkI.far {w w' : World} {a : Option Addr} {n : Nat} {r : Option Nat} {B : Nat} (h : MkI w B a n) (hg : w.grownBy w' r) (hB : ∀ j, r = some j → j < B) : MkI w' B a n := by
  rcases h with h | ⟨b, h1, h2, h3, h4⟩
  · exact .inl h
  · have hbl := hg.block b h3 (fun e => by have := hB b e.symm; omega)
    refine .inr ⟨b, h1, h2, by have := hg.size; omega, fun j hj => ?_⟩
    obtain ⟨q1, q2⟩ := h4 j hj
    exact ⟨by rw [World.cell?_of_block (w := w) (a := ⟨b, 0 + j, none⟩) hbl]; exact q1, by rw [World.frozen?_of_block (w := w) (a := ⟨b, 0 + j, none⟩) hbl]; exact q2⟩
theorem mark_rowI (a : Option Addr) (cap n k B : Nat) (w : World) (h : MkI w B a n) (hn : n ≤ 1048576) (hk : k ≤ 1048576) :
    Calls Tryd.prog 27 #[.slice a n cap, .int .i64 (k : Int)] w fun e w' => e = .returned (.int .i64 ((k + n : Nat) : Int)) ∧ NumsO w' a (ims k n) ∧ ∃ r : Option Nat, (∀ j, r = some j → B ≤ j ∧ a = some ⟨j, 0, none⟩) ∧ w.grownBy w' r := by
  rcases h with rfl | ⟨b, rfl, h1, _, h2⟩
  · refine (mark_nilI a cap k w).mono ?_
    rintro e w' ⟨rfl, rfl⟩
    exact ⟨by simp, .inl (ims_length k 0), none, fun j e => (by cases e), gr_refl _ _⟩
  · refine (mark_ints b cap n k w h2 hn hk).mono ?_
    rintro e w' ⟨rfl, h3, h4⟩
    exact ⟨rfl, .inr ⟨b, 0, rfl, h3⟩, some b, fun j e => (by injection e with e; subst e; exact ⟨h1, rfl⟩), h4⟩
set_option maxHeartbeats 800000 in
set_option maxRecDepth 100000 in
theorem held_ints (a : Option Addr) (cap n k : Nat) (w : World) (hv : NumsO w a (ims k n)) (hn : n ≤ 1048576) (hk : k ≤ 1048576) :
    Calls Tryd.prog 28 #[.slice a n cap, .int .i64 (k : Int)] w fun e w' => e = .returned (.int .i64 ((k + n : Nat) : Int)) ∧ w' = w := by
  have HL : Hid (NumsO w a (ims k n)) := hv
  clear hv
  go_enter Tryd.func28, Tryd.ntmps28
  go_wp2
  go_loop [5, 1] (fun iv kv => ∃ j : Nat, j ≤ n ∧ iv = .int .i64 j ∧ kv = .int .i64 ((k + j : Nat) : Int)) (fun iv _ => n - (intOf iv).toNat)
  case atStart => exact ⟨0, Nat.zero_le _, rfl, by simp⟩
  case round =>
    obtain ⟨j, hj, rfl, rfl⟩ := hrel
    by_cases hlt : j < n
    · have hltz : (j : Int) < (n : Int) := by omega
      have hl := ims_length k n
      rcases HL.out with h0 | ⟨b, o, rfl, hv0⟩
      · omega
      have c1 := hv0 j (by omega)
      rw [ims_at] at c1
      have HE : Hid (((k + j : Nat) : Int) + 1 = ((k + (j + 1) : Nat) : Int)) := by show _ = _; omega
      have hK0 : 0 ≤ ((k + j : Nat) : Int) := by omega
      have hK1 : ((k + j : Nat) : Int) ≤ 1099511627776 := by omega
      generalize ((k + j : Nat) : Int) = K at *
      clear hv0 hl
      go_wp2
      go_round
      case rel => exact ⟨j + 1, by omega, by go_num, by rw [← HE.out]⟩
      case measure => simp [intOf]; omega
    · have hltz : ¬ (j : Int) < (n : Int) := by omega
      have hjn : j = n := by omega
      subst hjn
      go_wp2
      go_ret
      exact ⟨rfl, rfl⟩
/-- A row of numbers that a call owns, as a slice. -/
theorem OwnI.sl {W : World} {B : Nat} {q : Value} {l : List Int} (h : OwnI W B q l) : ∃ a cap, q = .slice a l.length cap ∧ NumsO W a l ∧ (∀ b o, a = some ⟨b, o, none⟩ → B ≤ b ∧ b < W.heap.size) ∧ MkI W B a l.length := by
  have h' := h
  rcases h.2 with ⟨rfl, hn⟩ | ⟨g, cap, cur, rfl, hB, hg, hnc, hcm, _⟩
  · exact ⟨none, 0, by rw [hn], .inl hn, (fun b o e => by cases e), .inl hn⟩
  · have hlt := (Array.getElem?_eq_some_iff.1 hg).1
    have hI := OwnI.row h'
    refine ⟨some ⟨g, 0, none⟩, cap, rfl, .inr ⟨g, 0, rfl, hI⟩, fun b o e => by injection e with e; injection e with e1 _; subst e1; exact ⟨hB, hlt⟩, .inr ⟨g, rfl, hB, hlt, fun j hj => ?_⟩⟩
    rw [Nat.zero_add]
    have := hI j hj
    rw [Nat.zero_add] at this
    exact ⟨by rw [this]; rfl, h'.frozenAt j⟩
end Go.Proofs.YtclajbadeclbdaaDoor
