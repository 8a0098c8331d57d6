/- What the laws' helpers markValS and heldValS answer; only the marked row is written. Conditions: rows that a machine can hold. -/
import Derived.Test.YtaeokecodejpdaaEn
namespace Go.Proofs.Ytaeokecodejpdaa
open Go.RowKit
open Num
set_option linter.unusedVariables false
/-- So many validators, marked from k on. -/
def marks (k : Int) : Nat → List V
  | 0 => []
  | n + 1 => marks k n ++ [⟨k + 2 * n, k + 2 * n + 1⟩]
theorem marks_length (k : Int) : ∀ n, (marks k n).length = n
  | 0 => rfl
  | n + 1 => by rw [marks, List.length_append, marks_length k n]; rfl
theorem marks_at (k : Int) : ∀ n j (h : j < (marks k n).length), (marks k n)[j] = ⟨k + 2 * j, k + 2 * j + 1⟩
  | n + 1, j, h => by
    have hl := marks_length k n
    have hl' := marks_length k (n + 1)
    by_cases e : j = n
    · subst e
      have : (marks k (j + 1))[j]? = some ⟨k + 2 * j, k + 2 * j + 1⟩ := by
        rw [marks, List.getElem?_append_right (by omega), hl]; simp
      rw [List.getElem?_eq_getElem h] at this
      exact Option.some.inj this
    · have ih := marks_at k n j (by omega)
      have : (marks k (n + 1))[j]? = some ⟨k + 2 * j, k + 2 * j + 1⟩ := by
        rw [marks, List.getElem?_append_left (by omega), List.getElem?_eq_getElem (by omega), ih]
      rw [List.getElem?_eq_getElem h] at this
      exact Option.some.inj this
theorem gr_refl (w : World) (r : Option Nat) : w.grownBy w r := ⟨rfl, rfl, rfl, Nat.le_refl _, fun _ _ _ => rfl⟩
theorem gr_trans {a b c : World} {r : Option Nat} (h : a.grownBy b r) (k : b.grownBy c r) : a.grownBy c r :=
  ⟨k.os.trans h.os, k.tape.trans h.tape, k.output.trans h.output, Nat.le_trans h.size k.size, fun j hj hr => (k.block j (Nat.lt_of_lt_of_le hj h.size) hr).trans (h.block j hj hr)⟩
theorem gr_set (w : World) (g j : Nat) (u : Value) : w.grownBy (w.setCell ⟨g, j, none⟩ u) (some g) :=
  ⟨rfl, rfl, rfl, by rw [Deep.nblk_setCell]; exact Nat.le_refl _, fun k _ hr => Deep.blk_setCell_other w ⟨g, j, none⟩ u k (fun e => hr (by rw [e]))⟩
/-- Validators of an answer: none, or in cells that may be written. -/
def FrV (w : World) (B : Nat) (a : Option Addr) (l : List V) : Prop := l.length = 0 ∨ ∃ b o, a = some ⟨b, o, none⟩ ∧ B ≤ b ∧ VAt w b o l ∧ Room w b o (l.length * 2)
theorem FrV.o {w : World} {B : Nat} {a : Option Addr} {l : List V} (h : FrV w B a l) : VO w a l := by
  rcases h with h | ⟨b, o, h1, _, h2, _⟩
  · exact .inl h
  · exact .inr ⟨b, o, h1, h2⟩
theorem FrV.below {w w' : World} {B : Nat} {a : Option Addr} {l : List V} (h : FrV w B a l) (hb : Below w.heap.size w w') : FrV w' B a l := by
  rcases h with h | ⟨b, o, h1, h0, h2, h3⟩
  · exact .inl h
  · exact .inr ⟨b, o, h1, h0, h2.below hb, h3.below hb⟩
theorem OwnV.fr {w : World} {B : Nat} {v : Value} {l : List V} (h : OwnV w B v l) : ∃ a cap, v = .slice a l.length cap ∧ FrV w B a l ∧ l.length ≤ cap ∧ cap ≤ 9223372036854775807 := by
  have h' := h
  rcases h.2 with ⟨rfl, hn⟩ | ⟨g, cap, cur, rfl, hB, hg, hnc, hcm, _⟩
  · exact ⟨none, 0, by rw [hn], .inl hn, by omega, by omega⟩
  · refine ⟨some ⟨g, 0, none⟩, cap, rfl, .inr ⟨g, 0, rfl, hB, fun j hj => ?_, fun j hj => ?_⟩, hnc, hcm⟩
    · obtain ⟨e1, e2⟩ := vals_at l j hj
      rw [Nat.zero_add, h'.cellAt (j * 2) (by omega), h'.cellAt (j * 2 + 1) (by omega), e1, e2]
      exact ⟨rfl, rfl⟩
    · rw [Nat.zero_add]
      refine ⟨?_, h'.frozenAt j⟩
      rw [h'.cellAt j (by omega), List.getElem?_eq_getElem (by rw [vals_length]; exact hj)]; rfl
/-- A row in another block stands while block g is written. -/
theorem vAt_other {w w' : World} {b o g : Nat} {l : List V} (h : VAt w b o l) (hg : w.grownBy w' (some g)) (hne : b ≠ g) : VAt w' b o l := fun j hj => by
  obtain ⟨h1, h2⟩ := h j hj
  have hlt := World.block_lt_of_cell? w _ h1
  have hbl := hg.block b hlt (fun e => hne (by injection e))
  exact ⟨by rw [World.cell?_of_block (w := w) (a := ⟨b, o + j * 2, none⟩) hbl]; exact h1, by rw [World.cell?_of_block (w := w) (a := ⟨b, o + j * 2 + 1, none⟩) hbl]; exact h2⟩
theorem vO_other {w w' : World} {a : Option Addr} {g B : Nat} {l : List V} (h : VO w a l) (hg : w.grownBy w' (some g)) (hB : ∀ b o, a = some ⟨b, o, none⟩ → b < B) (hgB : B ≤ g) : VO w' a l := by
  rcases h with h | ⟨b, o, h1, h2⟩
  · exact .inl h
  · exact .inr ⟨b, o, h1, vAt_other h2 hg (by have := hB b o h1; omega)⟩
set_option maxHeartbeats 800000 in
theorem mark_any (b o cap : Nat) (l : List V) (k : Nat) (w : World) (hr : Room w b o (l.length * 2)) (hlen : l.length ≤ 1099511627776) (hk : k ≤ 1099511627776) :
    Calls Try.prog 9 #[.slice (some ⟨b, o, none⟩) l.length cap, .int .i64 (k : Int)] w fun e w' => e = .returned (.int .i64 ((k : Int) + 2 * (l.length : Int))) ∧ VAt w' b o (marks k l.length) ∧ Room w' b o (l.length * 2) ∧ w.grownBy w' (some b) := by
  have HR0 : Hid (Room w b o (l.length * 2)) := hr
  clear hr
  go_enter Try.func9, Try.ntmps9
  go_wp2
  go_loopw [5, 1] (fun iv kv wr => ∃ j : Nat, j ≤ l.length ∧ iv = .int .i64 j ∧ kv = .int .i64 ((k : Int) + 2 * (j : Int)) ∧ Hid (VAt wr b o (marks k j)) ∧ Hid (Room wr b o (l.length * 2)) ∧ Hid (w.grownBy wr (some b))) (fun iv _ _ => l.length - (intOf iv).toNat)
  case atStart => exact ⟨0, Nat.zero_le _, rfl, by simp, fun j hj => by simp [marks] at hj, HR0.out, gr_refl _ _⟩
  case round =>
    obtain ⟨j, hj, rfl, rfl, HA, HR, HG⟩ := hrel
    by_cases hlt : j < l.length
    · have hltz : (j : Int) < (l.length : Int) := by omega
      obtain ⟨s1, f1⟩ := HR.out (j * 2) (by omega)
      obtain ⟨s2, f2⟩ := HR.out (j * 2 + 1) (by omega)
      rw [← Nat.add_assoc] at s2 f2
      obtain ⟨u1, e1⟩ := Option.isSome_iff_exists.1 s1
      obtain ⟨u2, e2⟩ := Option.isSome_iff_exists.1 s2
      have HS : Hid ((wr.cell? ⟨b, o + j * 2, none⟩).isSome = true ∧ (wr.cell? ⟨b, o + j * 2 + 1, none⟩).isSome = true) := ⟨s1, s2⟩
      clear s1 s2
      go_wp2
      go_roundw
      case rel =>
        refine ⟨j + 1, by omega, by go_num, by first | go_num | (congr 1; omega), ?_, (HR.out.set _ _ _).set _ _ _, gr_trans HG.out (gr_trans (gr_set _ _ _ _) (gr_set _ _ _ _))⟩
        show VAt _ _ _ _
        have hn := HA.out.snoc (v := ⟨(k : Int) + 2 * (j : Int), (k : Int) + 2 * (j : Int) + 1⟩) (by rw [marks_length]; exact HS.out.1) (by rw [marks_length]; exact HS.out.2)
        rw [marks_length] at hn
        exact hn
      case measure => simp [intOf]; omega
    · have hltz : ¬ (j : Int) < (l.length : Int) := by omega
      have hjl : j = l.length := by omega
      subst hjl
      go_wp2
      go_ret
      exact ⟨rfl, HA.out, HR.out, HG.out⟩
set_option maxHeartbeats 400000 in
theorem mark_nil (a : Option Addr) (cap : Nat) (k : Nat) (w : World) :
    Calls Try.prog 9 #[.slice a 0 cap, .int .i64 (k : Int)] w fun e w' => e = .returned (.int .i64 (k : Int)) ∧ w' = w := by
  go_enter Try.func9, Try.ntmps9
  go_wp2
  refine wp_loop_rounds 1 ?_
  rw [rounds_succ]
  go_wp2
  go_ret
  exact ⟨rfl, rfl⟩
theorem mark_fr (a : Option Addr) (cap : Nat) (l : List V) (k B : Nat) (w : World) (h : FrV w B a l) (hlen : l.length ≤ 1099511627776) (hk : k ≤ 1099511627776) :
    Calls Try.prog 9 #[.slice a l.length cap, .int .i64 (k : Int)] w fun e w' => e = .returned (.int .i64 ((k : Int) + 2 * (l.length : Int))) ∧ FrV w' B a (marks k l.length) ∧ ∃ g, B ≤ g ∧ w.grownBy w' (some g) := by
  rcases h with h | ⟨b, o, rfl, hB, hv, hr⟩
  · rw [h]
    refine (mark_nil a cap k w).mono ?_
    rintro e w' ⟨rfl, rfl⟩
    exact ⟨by simp, .inl rfl, B, Nat.le_refl _, gr_refl _ _⟩
  · refine (mark_any b o cap l k w hr hlen hk).mono ?_
    rintro e w' ⟨rfl, h1, h2, h3⟩
    exact ⟨rfl, .inr ⟨b, o, rfl, hB, h1, by rw [marks_length]; exact h2⟩, b, hB, h3⟩
set_option maxHeartbeats 800000 in
theorem held_any (a : Option Addr) (cap n k : Nat) (w : World) (hv : VO w a (marks k n)) (hn : n ≤ 1099511627776) (hk : k ≤ 1099511627776) :
    Calls Try.prog 10 #[.slice a n cap, .int .i64 (k : Int)] w fun e w' => e = .returned (.int .i64 ((k : Int) + 2 * (n : Int))) ∧ w' = w := by
  have HL : Hid (VO w a (marks k n)) := hv
  clear hv
  go_enter Try.func10, Try.ntmps10
  go_wp2
  go_loop [5, 1] (fun iv kv => ∃ j : Nat, j ≤ n ∧ iv = .int .i64 j ∧ kv = .int .i64 ((k : Int) + 2 * (j : Int))) (fun iv _ => n - (intOf iv).toNat)
  case atStart => exact ⟨0, Nat.zero_le _, rfl, by simp⟩
  case round =>
    obtain ⟨j, hj, rfl, rfl⟩ := hrel
    by_cases hlt : j < n
    · have hltz : (j : Int) < (n : Int) := by omega
      have hl := marks_length k n
      rcases HL.out with h0 | ⟨b, o, rfl, hv0⟩
      · omega
      obtain ⟨c1, c2⟩ := hv0 j (by omega)
      rw [marks_at] at c1 c2
      simp only at c1 c2
      clear hv0 hl
      go_wp2
      go_round
      case rel => exact ⟨j + 1, by omega, by go_num, by first | go_num | (congr 1; omega)⟩
      case measure => simp [intOf]; omega
    · have hltz : ¬ (j : Int) < (n : Int) := by omega
      have hjl : j = n := by omega
      subst hjl
      go_wp2
      go_ret
      exact ⟨rfl, rfl⟩
end Go.Proofs.Ytaeokecodejpdaa
