/- What the laws' helpers markValS and heldValS answer; only the marked row is written. Conditions: rows that a machine can hold. What the laws' helpers markText, markCSigS and markCommit answer; only the marked row is written. Conditions: rows that a machine can hold. -/
import Derived.Test.YtajfmjgaaapjeaaGreatDoorGA
import Derived.Test.YtajfmjgaaapjeaaGreatDoorGr
import Derived.Test.YtajfmjgaaapjeaaGreatDoorLc
import Derived.Deep.MidRow
import Derived.Deep.Heap
namespace Go.Proofs.YtajfmjgaaapjeaaGreatDoor
open Go.RowKit
open Num
set_option linter.unusedVariables false
/-- So many validators, marked from k on. -/
def vmarks (k : Int) : Nat → List V
  | 0 => []
  | n + 1 => vmarks k n ++ [⟨k + 2 * n, k + 2 * n + 1⟩]
theorem vmarks_length (k : Int) : ∀ n, (vmarks k n).length = n
  | 0 => rfl
  | n + 1 => by rw [vmarks, List.length_append, vmarks_length k n]; rfl
theorem vmarks_at (k : Int) : ∀ n j (h : j < (vmarks k n).length), (vmarks k n)[j] = ⟨k + 2 * j, k + 2 * j + 1⟩
  | n + 1, j, h => by
    have hl := vmarks_length k n
    have hl' := vmarks_length k (n + 1)
    by_cases e : j = n
    · subst e
      have : (vmarks k (j + 1))[j]? = some ⟨k + 2 * j, k + 2 * j + 1⟩ := by
        rw [vmarks, List.getElem?_append_right (by omega), hl]; simp
      rw [List.getElem?_eq_getElem h] at this
      exact Option.some.inj this
    · have ih := vmarks_at k n j (by omega)
      have : (vmarks k (n + 1))[j]? = some ⟨k + 2 * j, k + 2 * j + 1⟩ := by
        rw [vmarks, List.getElem?_append_left (by omega), List.getElem?_eq_getElem (by omega), ih]
      rw [List.getElem?_eq_getElem h] at this
      exact Option.some.inj this
/-- Validators of an answer: none, or in cells that may be written. -/
def FrV (w : World) (B : Nat) (a : Option Addr) (l : List V) : Prop := l.length = 0 ∨ ∃ b o, a = some ⟨b, o, none⟩ ∧ B ≤ b ∧ VAt w b o l ∧ Room w b o (l.length * 2)
theorem FrV.o {w : World} {B : Nat} {a : Option Addr} {l : List V} (h : FrV w B a l) : VO w a l := by
  rcases h with h | ⟨b, o, h1, _, h2, _⟩
  · exact .inl h
  · exact .inr ⟨b, o, h1, h2⟩
theorem FrV.below {w w' : World} {B : Nat} {a : Option Addr} {l : List V} (h : FrV w B a l) (hb : Below w.heap.size w w') : FrV w' B a l := by
  rcases h with h | ⟨b, o, h1, h0, h2, h3⟩
  · exact .inl h
  · exact .inr ⟨b, o, h1, h0, h2.below hb, h3.below hb⟩
theorem OwnV.fr {w : World} {B : Nat} {v : Value} {l : List V} (h : OwnV w B v l) : ∃ a cap, v = .slice a l.length cap ∧ FrV w B a l ∧ l.length ≤ cap ∧ cap ≤ 9223372036854775807 := by
  have h' := h
  rcases h.2 with ⟨rfl, hn⟩ | ⟨g, cap, cur, rfl, hB, hg, hnc, hcm, _⟩
  · exact ⟨none, 0, by rw [hn], .inl hn, by omega, by omega⟩
  · refine ⟨some ⟨g, 0, none⟩, cap, rfl, .inr ⟨g, 0, rfl, hB, fun j hj => ?_, fun j hj => ?_⟩, hnc, hcm⟩
    · obtain ⟨e1, e2⟩ := vals_at l j hj
      rw [Nat.zero_add, h'.cellAt (j * 2) (by omega), h'.cellAt (j * 2 + 1) (by omega), e1, e2]
      exact ⟨rfl, rfl⟩
    · rw [Nat.zero_add]
      refine ⟨?_, h'.frozenAt j⟩
      rw [h'.cellAt j (by omega), List.getElem?_eq_getElem (by rw [vals_length]; exact hj)]; rfl
/-- A row in another block stands while block g is written. -/
theorem vAt_other {w w' : World} {b o g : Nat} {l : List V} (h : VAt w b o l) (hg : w.grownBy w' (some g)) (hne : b ≠ g) : VAt w' b o l := fun j hj => by
  obtain ⟨h1, h2⟩ := h j hj
  have hlt := World.block_lt_of_cell? w _ h1
  have hbl := hg.block b hlt (fun e => hne (by injection e))
  exact ⟨by rw [World.cell?_of_block (w := w) (a := ⟨b, o + j * 2, none⟩) hbl]; exact h1, by rw [World.cell?_of_block (w := w) (a := ⟨b, o + j * 2 + 1, none⟩) hbl]; exact h2⟩
theorem vO_other {w w' : World} {a : Option Addr} {g B : Nat} {l : List V} (h : VO w a l) (hg : w.grownBy w' (some g)) (hB : ∀ b o, a = some ⟨b, o, none⟩ → b < B) (hgB : B ≤ g) : VO w' a l := by
  rcases h with h | ⟨b, o, h1, h2⟩
  · exact .inl h
  · exact .inr ⟨b, o, h1, vAt_other h2 hg (by have := hB b o h1; omega)⟩
set_option maxHeartbeats 800000 in
set_option maxRecDepth 100000 in
theorem mark_any (b o cap : Nat) (l : List V) (k : Nat) (w : World) (hr : Room w b o (l.length * 2)) (hlen : l.length ≤ 1099511627776) (hk : k ≤ 1099511627776) :
    Calls Tryz.prog 27 #[.slice (some ⟨b, o, none⟩) l.length cap, .int .i64 (k : Int)] w fun e w' => e = .returned (.int .i64 ((k : Int) + 2 * (l.length : Int))) ∧ VAt w' b o (vmarks k l.length) ∧ Room w' b o (l.length * 2) ∧ w.grownBy w' (some b) := by
  have HR0 : Hid (Room w b o (l.length * 2)) := hr
  clear hr
  go_enter Tryz.func27, Tryz.ntmps27
  go_wp2
  go_loopw [5, 1] (fun iv kv wr => ∃ j : Nat, j ≤ l.length ∧ iv = .int .i64 j ∧ kv = .int .i64 ((k : Int) + 2 * (j : Int)) ∧ Hid (VAt wr b o (vmarks k j)) ∧ Hid (Room wr b o (l.length * 2)) ∧ Hid (w.grownBy wr (some b))) (fun iv _ _ => l.length - (intOf iv).toNat)
  case atStart => exact ⟨0, Nat.zero_le _, rfl, by simp, fun j hj => by simp [vmarks] at hj, HR0.out, gr_refl _ _⟩
  case round =>
    obtain ⟨j, hj, rfl, rfl, HA, HR, HG⟩ := hrel
    by_cases hlt : j < l.length
    · have hltz : (j : Int) < (l.length : Int) := by omega
      obtain ⟨s1, f1⟩ := HR.out (j * 2) (by omega)
      obtain ⟨s2, f2⟩ := HR.out (j * 2 + 1) (by omega)
      rw [← Nat.add_assoc] at s2 f2
      obtain ⟨u1, e1⟩ := Option.isSome_iff_exists.1 s1
      obtain ⟨u2, e2⟩ := Option.isSome_iff_exists.1 s2
      have HS : Hid ((wr.cell? ⟨b, o + j * 2, none⟩).isSome = true ∧ (wr.cell? ⟨b, o + j * 2 + 1, none⟩).isSome = true) := ⟨s1, s2⟩
      clear s1 s2
      go_wp2
      go_roundw
      case rel =>
        refine ⟨j + 1, by omega, by go_num, by first | go_num | (congr 1; omega), ?_, (HR.out.set _ _ _).set _ _ _, gr_trans HG.out (gr_trans (gr_set _ _ _ _) (gr_set _ _ _ _))⟩
        show VAt _ _ _ _
        have hn := HA.out.snoc (v := ⟨(k : Int) + 2 * (j : Int), (k : Int) + 2 * (j : Int) + 1⟩) (by rw [vmarks_length]; exact HS.out.1) (by rw [vmarks_length]; exact HS.out.2)
        rw [vmarks_length] at hn
        exact hn
      case measure => simp [intOf]; omega
    · have hltz : ¬ (j : Int) < (l.length : Int) := by omega
      have hjl : j = l.length := by omega
      subst hjl
      go_wp2
      go_ret
      exact ⟨rfl, HA.out, HR.out, HG.out⟩
set_option maxHeartbeats 400000 in
set_option maxRecDepth 100000 in
theorem vmark_nil (a : Option Addr) (cap : Nat) (k : Nat) (w : World) :
    Calls Tryz.prog 27 #[.slice a 0 cap, .int .i64 (k : Int)] w fun e w' => e = .returned (.int .i64 (k : Int)) ∧ w' = w := by
  go_enter Tryz.func27, Tryz.ntmps27
  go_wp2
  refine wp_loop_rounds 1 ?_
  rw [rounds_succ]
  go_wp2
  go_ret
  exact ⟨rfl, rfl⟩
theorem mark_fr (a : Option Addr) (cap : Nat) (l : List V) (k B : Nat) (w : World) (h : FrV w B a l) (hlen : l.length ≤ 1099511627776) (hk : k ≤ 1099511627776) :
    Calls Tryz.prog 27 #[.slice a l.length cap, .int .i64 (k : Int)] w fun e w' => e = .returned (.int .i64 ((k : Int) + 2 * (l.length : Int))) ∧ FrV w' B a (vmarks k l.length) ∧ ∃ g, B ≤ g ∧ w.grownBy w' (some g) := by
  rcases h with h | ⟨b, o, rfl, hB, hv, hr⟩
  · rw [h]
    refine (vmark_nil a cap k w).mono ?_
    rintro e w' ⟨rfl, rfl⟩
    exact ⟨by simp, .inl rfl, B, Nat.le_refl _, gr_refl _ _⟩
  · refine (mark_any b o cap l k w hr hlen hk).mono ?_
    rintro e w' ⟨rfl, h1, h2, h3⟩
    exact ⟨rfl, .inr ⟨b, o, rfl, hB, h1, by rw [vmarks_length]; exact h2⟩, b, hB, h3⟩
set_option maxHeartbeats 800000 in
set_option maxRecDepth 100000 in
theorem held_any (a : Option Addr) (cap n k : Nat) (w : World) (hv : VO w a (vmarks k n)) (hn : n ≤ 1099511627776) (hk : k ≤ 1099511627776) :
    Calls Tryz.prog 62 #[.slice a n cap, .int .i64 (k : Int)] w fun e w' => e = .returned (.int .i64 ((k : Int) + 2 * (n : Int))) ∧ w' = w := by
  have HL : Hid (VO w a (vmarks k n)) := hv
  clear hv
  go_enter Tryz.func62, Tryz.ntmps62
  go_wp2
  go_loop [5, 1] (fun iv kv => ∃ j : Nat, j ≤ n ∧ iv = .int .i64 j ∧ kv = .int .i64 ((k : Int) + 2 * (j : Int))) (fun iv _ => n - (intOf iv).toNat)
  case atStart => exact ⟨0, Nat.zero_le _, rfl, by simp⟩
  case round =>
    obtain ⟨j, hj, rfl, rfl⟩ := hrel
    by_cases hlt : j < n
    · have hltz : (j : Int) < (n : Int) := by omega
      have hl := vmarks_length k n
      rcases HL.out with h0 | ⟨b, o, rfl, hv0⟩
      · omega
      obtain ⟨c1, c2⟩ := hv0 j (by omega)
      rw [vmarks_at] at c1 c2
      simp only at c1 c2
      clear hv0 hl
      go_wp2
      go_round
      case rel => exact ⟨j + 1, by omega, by go_num, by first | go_num | (congr 1; omega)⟩
      case measure => simp [intOf]; omega
    · have hltz : ¬ (j : Int) < (n : Int) := by omega
      have hjl : j = n := by omega
      subst hjl
      go_wp2
      go_ret
      exact ⟨rfl, rfl⟩
end Go.Proofs.YtajfmjgaaapjeaaGreatDoor
namespace Go.Proofs.YtajfmjgaaapjeaaGreatDoor
open Go.RowKit
open Num
set_option linter.unusedVariables false
def mdF : Nat → Nat → ByteArray → ByteArray
  | 0, _, o => o
  | f + 1, k, o => if k = 0 then o else mdF f (k / 10) (⟨#[UInt8.ofNat (48 + k % 10)]⟩ ++ o)
/-- The mark number k. -/
def mtxt (k : Nat) : ByteArray := ⟨#[109]⟩ ++ mdF k k ⟨#[]⟩
theorem size_sing (x : UInt8) : (⟨#[x]⟩ : ByteArray).size = 1 := rfl
set_option maxHeartbeats 800000 in
set_option maxRecDepth 100000 in
theorem mtext_any (k : Nat) (hk : 1 ≤ k) (hm : k ≤ 1099511627776) (w : World) :
    Calls Tryz.prog 91 #[.int .i64 (k : Int)] w fun e w' => e = .returned (.string (mtxt k)) ∧ Below w.heap.size w w' := by
  have hk0 : ¬ (k : Int) ≤ 0 := by omega
  go_enter Tryz.func91, Tryz.ntmps91
  go_wp2
  go_loopw [0, 3] (fun kk out wr => ∃ (m f : Nat) (x : ByteArray), kk = .int .i64 m ∧ out = .string x ∧ m ≤ f ∧ x.size + m ≤ k ∧ Hid (mdF k k ⟨#[]⟩ = mdF f m x) ∧ Below w.heap.size w wr) (fun kk _ _ => (intOf kk).toNat)
  case atStart => exact ⟨k, k, ⟨#[]⟩, rfl, rfl, Nat.le_refl _, by show 0 + k ≤ k; omega, rfl, Below.refl _ _⟩
  case round =>
    obtain ⟨m, f, x, rfl, rfl, hmf, hxm, HM, hb⟩ := hrel
    by_cases hpos : 0 < m
    · obtain ⟨f', rfl⟩ : ∃ f', f = f' + 1 := ⟨f - 1, by omega⟩
      have hp' : (0 : Int) < (m : Int) := by omega
      have hr : (m : Int).tmod 10 = ((m % 10 : Nat) : Int) := by rw [Int.tmod_eq_emod_of_nonneg (by omega)]; omega
      have hq : (m : Int).tdiv 10 = ((m / 10 : Nat) : Int) := by rw [Int.tdiv_eq_ediv_of_nonneg (by omega)]; omega
      obtain ⟨r, hrr⟩ : ∃ r, m % 10 = r := ⟨_, rfl⟩
      obtain ⟨d, hd⟩ : ∃ d, m / 10 = d := ⟨_, rfl⟩
      have HS : Hid (mdF (f' + 1) m x = mdF f' d (⟨#[UInt8.ofNat (48 + r)]⟩ ++ x)) := by
        show _ = _
        conv => lhs; unfold mdF
        rw [if_neg (by omega), hrr, hd]
      rw [hrr] at hr
      rw [hd] at hq
      have hr10 : r < 10 := by omega
      have hdm : d < m := by omega
      have hcv := run_str_one (P := Tryz.prog) wr 22 9 5 Tryz.underlying22 Tryz.underlying5 Tryz.underlying9 (48 + (r : Int)) (by omega) (by omega)
      rw [show (48 + (r : Int)).toNat = 48 + r from by omega] at hcv
      clear hrr hd
      have hsz : wr.heap.size = wr.heap.size := rfl
      have hb2 := hb.alloc hb.size (.cells #[.int .u8 (48 + (r : Int))] 5)
      generalize hB : UInt8.ofNat (48 + r) = B at *
      have hs1 : (⟨#[B]⟩ : ByteArray).size = 1 := rfl
      clear hB
      go_wp2
      go_roundw
      case rel =>
        refine ⟨d, f', ⟨#[B]⟩ ++ x, rfl, rfl, by omega, ?_, ?_, hb2⟩
        · rw [ByteArray.size_append, hs1]; omega
        · rw [← HS.out]; exact HM
      case measure => simp [intOf]; omega
    · obtain rfl : m = 0 := by omega
      have HF : Hid (mtxt k = ⟨#[109]⟩ ++ x) := by
        show _ = _
        unfold mtxt
        rw [HM.out]
        cases f <;> rfl
      go_wp2
      go_ret
      exact ⟨by rw [HF.out]; rfl, hb⟩
/-- So many signatures, marked from k on. -/
def marks (k : Nat) : Nat → List Sg
  | 0 => []
  | n + 1 => marks k n ++ [⟨((k + 2 * n : Nat) : Int), mtxt (k + 2 * n + 1)⟩]
theorem marks_length (k : Nat) : ∀ n, (marks k n).length = n
  | 0 => rfl
  | n + 1 => by rw [marks, List.length_append, marks_length k n]; rfl
theorem marks_at (k : Nat) : ∀ n j (h : j < (marks k n).length), (marks k n)[j] = ⟨((k + 2 * j : Nat) : Int), mtxt (k + 2 * j + 1)⟩
  | n + 1, j, h => by
    have hl := marks_length k n
    have hl' := marks_length k (n + 1)
    by_cases e : j = n
    · subst e
      have : (marks k (j + 1))[j]? = some ⟨((k + 2 * j : Nat) : Int), mtxt (k + 2 * j + 1)⟩ := by
        rw [marks, List.getElem?_append_right (by omega), hl]; simp
      rw [List.getElem?_eq_getElem h] at this
      exact Option.some.inj this
    · have ih := marks_at k n j (by omega)
      have : (marks k (n + 1))[j]? = some ⟨((k + 2 * j : Nat) : Int), mtxt (k + 2 * j + 1)⟩ := by
        rw [marks, List.getElem?_append_left (by omega), List.getElem?_eq_getElem (by omega), ih]
      rw [List.getElem?_eq_getElem h] at this
      exact Option.some.inj this
theorem gr_of_below {w w' : World} {r : Option Nat} (h : Below w.heap.size w w') : w.grownBy w' r := ⟨h.os, h.tape, h.output, h.size, fun k hk _ => h.block k hk⟩
set_option maxHeartbeats 1600000 in
set_option maxRecDepth 100000 in
theorem mark_sgs (b cap n k : Nat) (w : World) (hr : Room w b 0 (n * 2)) (hn : n ≤ 1048576) (hk : k ≤ 1073741824) :
    Calls Tryz.prog 61 #[.slice (some ⟨b, 0, none⟩) n cap, .int .i64 (k : Int)] w fun e w' => e = .returned (.int .i64 ((k + 2 * n : Nat) : Int)) ∧ SAt w' b 0 (marks k n) ∧ w.grownBy w' (some b) := by
  have HR0 : Hid (Room w b 0 (n * 2)) := hr
  clear hr
  go_enter Tryz.func61, Tryz.ntmps61
  go_wp2
  go_loopw [5, 1] (fun iv kv wr => ∃ j : Nat, j ≤ n ∧ iv = .int .i64 j ∧ kv = .int .i64 ((k + 2 * j : Nat) : Int) ∧ Hid (SAt wr b 0 (marks k j)) ∧ Hid (Room wr b 0 (n * 2)) ∧ Hid (w.grownBy wr (some b))) (fun iv _ _ => n - (intOf iv).toNat)
  case atStart => exact ⟨0, Nat.zero_le _, rfl, by simp, fun j hj => by simp [marks] at hj, HR0.out, gr_refl _ _⟩
  case round =>
    obtain ⟨j, hj, rfl, rfl, HA, HR, HG⟩ := hrel
    by_cases hlt : j < n
    · have hltz : (j : Int) < (n : Int) := by omega
      obtain ⟨s1, f1⟩ := HR.out (j * 2) (by omega)
      rw [Nat.zero_add] at s1 f1
      obtain ⟨u1, e1⟩ := Option.isSome_iff_exists.1 s1
      have kM := fun W => mtext_any (k + 2 * j + 1) (by omega) (by omega) W
      rw [show ((k + 2 * j + 1 : Nat) : Int) = ((k + 2 * j : Nat) : Int) + 1 from by omega] at kM
      have HM : Hid (marks k (j + 1) = marks k j ++ [⟨((k + 2 * j : Nat) : Int), mtxt (k + 2 * j + 1)⟩]) := rfl
      have HE : Hid (((k + 2 * j : Nat) : Int) + 1 + 1 = ((k + 2 * (j + 1) : Nat) : Int)) := by show _ = _; omega
      generalize mtxt (k + 2 * j + 1) = T at *
      obtain ⟨K, hK⟩ : ∃ K : Int, ((k + 2 * j : Nat) : Int) = K := ⟨_, rfl⟩
      have hK0 : 0 ≤ K := by omega
      have hK1 : K ≤ 1099511627776 := by omega
      rw [hK] at kM ⊢
      have HM2 : Hid (marks k (j + 1) = marks k j ++ [⟨K, T⟩]) := by show _ = _; rw [HM.out, hK]
      have HE2 : Hid (K + 1 + 1 = ((k + 2 * (j + 1) : Nat) : Int)) := by show _ = _; rw [← hK]; exact HE.out
      clear hK HM HE
      have hbl : b < wr.heap.size := World.block_lt_of_cell? wr _ e1
      clear s1
      go_wp2_with fail
      have HG1 : Hid (wr.grownBy (wr.setCell ⟨b, j * 2, none⟩ (.int .i64 K)) (some b)) := gr_set _ _ _ _
      have HR1 : Hid (Room (wr.setCell ⟨b, j * 2, none⟩ (.int .i64 K)) b 0 (n * 2)) := HR.out.set _ _ _
      have HV1 : Hid ((wr.setCell ⟨b, j * 2, none⟩ (.int .i64 K)).cell? ⟨b, j * 2, none⟩ = some (.int .i64 K)) := World.cell?_setCell_same _ _ _ e1
      have HA1 : Hid (∀ (i : Nat) (hi : i < (marks k j).length), (wr.setCell ⟨b, j * 2, none⟩ (.int .i64 K)).cell? ⟨b, 0 + i * 2, none⟩ = some (.int .i64 (marks k j)[i].v) ∧ (wr.setCell ⟨b, j * 2, none⟩ (.int .i64 K)).cell? ⟨b, 0 + i * 2 + 1, none⟩ = some (.string (marks k j)[i].s)) := fun i hi => by
        have hi' : i < j := by rw [marks_length] at hi; exact hi
        obtain ⟨q1, q2⟩ := HA.out i hi
        exact ⟨by rw [World.cell?_setCell_other wr ⟨b, j * 2, none⟩ ⟨b, 0 + i * 2, none⟩ _ (fun e => by injection e; omega)]; exact q1, by rw [World.cell?_setCell_other wr ⟨b, j * 2, none⟩ ⟨b, 0 + i * 2 + 1, none⟩ _ (fun e => by injection e; omega)]; exact q2⟩
      generalize wr.setCell ⟨b, j * 2, none⟩ (.int .i64 K) = w1 at *
      refine (kM _).mono ?_
      rintro e w2 ⟨rfl, b2⟩
      have HR2 : Hid (Room w2 b 0 (n * 2)) := HR1.out.below b2
      have hb1 : b < w1.heap.size := Nat.lt_of_lt_of_le hbl HG1.out.size
      have HV2 : Hid (w2.cell? ⟨b, j * 2, none⟩ = some (.int .i64 K)) := (b2.cell (p := ⟨b, j * 2, none⟩) hb1).trans HV1.out
      have HA2 : Hid (SAt w2 b 0 (marks k j)) := SAt.below (w := w1) HA1.out b2 hb1
      have HG2 : Hid (w.grownBy w2 (some b)) := gr_trans (gr_trans HG.out HG1.out) (gr_of_below b2)
      obtain ⟨s2, f2⟩ := HR2.out (j * 2 + 1) (by omega)
      rw [Nat.zero_add] at s2 f2
      obtain ⟨u2, e2⟩ := Option.isSome_iff_exists.1 s2
      clear s2 b2 HV1 HA1 HR1 HG1 HG HA HR e1 f1 kM
      have HF : Hid (SAt (w2.setCell ⟨b, j * 2 + 1, none⟩ (.string T)) b 0 (marks k (j + 1))) := by
        show SAt _ _ _ _
        rw [HM2.out]
        intro i hi
        by_cases hij : i < j
        · obtain ⟨q1, q2⟩ := HA2.out i (by rw [marks_length]; exact hij)
          rw [World.cell?_setCell_other _ ⟨b, j * 2 + 1, none⟩ ⟨b, 0 + i * 2, none⟩ _ (fun e => by injection e; omega), World.cell?_setCell_other _ ⟨b, j * 2 + 1, none⟩ ⟨b, 0 + i * 2 + 1, none⟩ _ (fun e => by injection e; omega), q1, q2]
          simp [List.getElem_append_left, marks_length, hij]
        · have hlm := marks_length k j
          have : i = j := by rw [List.length_append, hlm] at hi; simp at hi; omega
          subst this
          rw [Nat.zero_add, World.cell?_setCell_other _ ⟨b, i * 2 + 1, none⟩ ⟨b, i * 2, none⟩ _ (fun e => by injection e; omega), World.cell?_setCell_same _ _ _ e2, HV2.out]
          simp [List.getElem_append_right, hlm]
      have HG3 : Hid (w.grownBy (w2.setCell ⟨b, j * 2 + 1, none⟩ (.string T)) (some b)) := gr_trans HG2.out (gr_set _ _ _ _)
      have HR3 : Hid (Room (w2.setCell ⟨b, j * 2 + 1, none⟩ (.string T)) b 0 (n * 2)) := HR2.out.set _ _ _
      go_wp2
      go_roundw
      case rel => exact ⟨j + 1, by omega, by go_num, by rw [← HE2.out], HF, HR3, HG3⟩
      case measure => simp [intOf]; omega
    · have hltz : ¬ (j : Int) < (n : Int) := by omega
      have hjl : j = n := by omega
      subst hjl
      go_wp2
      go_ret
      exact ⟨rfl, HA.out, HG.out⟩
theorem mark_nil (a : Option Addr) (cap k : Nat) (w : World) :
    Calls Tryz.prog 61 #[.slice a 0 cap, .int .i64 (k : Int)] w fun e w' => e = .returned (.int .i64 (k : Int)) ∧ w' = w := by
  go_enter Tryz.func61, Tryz.ntmps61
  go_wp2
  refine wp_loop_rounds 1 ?_
  rw [rounds_succ]
  go_wp2
  go_ret
  exact ⟨rfl, rfl⟩
/-- What may be marked: nothing, or a row from B on. -/
def Mk (w : World) (B : Nat) (a : Option Addr) (n : Nat) : Prop := n = 0 ∨ ∃ b, a = some ⟨b, 0, none⟩ ∧ B ≤ b ∧ b < w.heap.size ∧ Room w b 0 (n * 2)
theorem Mk.below {w w' : World} {B n : Nat} {a : Option Addr} (h : Mk w B a n) (hb : Below w.heap.size w w') : Mk w' B a n := by
  rcases h with h | ⟨b, h1, h2, h3, h4⟩
  · exact .inl h
  · exact .inr ⟨b, h1, h2, by have := hb.size; omega, h4.below hb⟩
theorem Cop.mk {w : World} {B : Nat} {x : Ct} {a : Option Addr} (h : Cop w B x a) : Mk w B a x.l.length := by
  obtain ⟨b, rfl, h0, h1, h2, h3⟩ := h
  exact .inr ⟨b, rfl, h0, h1, h3⟩
theorem mark_row (a : Option Addr) (cap n k B : Nat) (w : World) (h : Mk w B a n) (hn : n ≤ 1048576) (hk : k ≤ 1073741824) :
    Calls Tryz.prog 61 #[.slice a n cap, .int .i64 (k : Int)] w fun e w' => e = .returned (.int .i64 ((k + 2 * n : Nat) : Int)) ∧ SO w' a (marks k n) ∧ ∃ r : Option Nat, (∀ j, r = some j → B ≤ j ∧ a = some ⟨j, 0, none⟩) ∧ w.grownBy w' r := by
  rcases h with rfl | ⟨b, rfl, h1, _, h2⟩
  · refine (mark_nil a cap k w).mono ?_
    rintro e w' ⟨rfl, rfl⟩
    exact ⟨by simp, .inl (marks_length k 0), none, fun j e => (by cases e), gr_refl _ _⟩
  · refine (mark_sgs b cap n k w h2 hn hk).mono ?_
    rintro e w' ⟨rfl, h3, h4⟩
    exact ⟨rfl, h3.o, some b, fun j e => (by injection e with e; subst e; exact ⟨h1, rfl⟩), h4⟩
set_option maxHeartbeats 400000 in
set_option maxRecDepth 100000 in
theorem mark_com (x : Ct) (a : Option Addr) (cap k B : Nat) (w : World) (h : Mk w B a x.l.length) (hn : x.l.length ≤ 1048576) (hk : k ≤ 1073741824) (hB : B ≤ w.heap.size) :
    Calls Tryz.prog 28 #[cV x a cap, .int .i64 (k : Int)] w fun e w' => e = .returned (.int .i64 ((k + 2 * x.l.length : Nat) : Int)) ∧ SO w' a (marks k x.l.length) ∧ ∃ r : Option Nat, (∀ j, r = some j → B ≤ j ∧ a = some ⟨j, 0, none⟩) ∧ w.grownBy w' r := by
  have HX : Hid (Blk (w.alloc (.cells (ccs x a cap).toArray 33)) w.heap.size (ccs x a cap) 33) := blk_new w _ _
  have HG : Hid (w.grownBy (w.alloc (.cells (ccs x a cap).toArray 33)) none) := gr_of_below (below_one _ _)
  have kM := fun W (h : Mk W B a x.l.length) => mark_row a cap x.l.length k B W h hn hk
  have HM : Hid (Mk (w.alloc (.cells (ccs x a cap).toArray 33)) B a x.l.length) := h.below (below_one _ _)
  have HF : Hid (∀ (W : World) (g : Option Nat), (w.alloc (.cells (ccs x a cap).toArray 33)).grownBy W g → w.grownBy W g) := fun W g hg => gr_trans (gr_of_below (below_one _ _)) hg
  clear h HG
  obtain ⟨h, r, i, l⟩ := x
  unfold cV
  unfold ccs at *
  simp only at HX kM HM HF hn ⊢
  have x3 := HX.out.cell 3 rfl
  go_enter Tryz.func28, Tryz.ntmps28
  go_wp2_with fail
  refine (kM _ HM.out).mono ?_
  rintro e w1 ⟨rfl, hs, g, hg, hgr⟩
  go_wp2
  go_ret
  exact ⟨rfl, hs, g, hg, HF.out _ _ hgr⟩
theorem SO.far {w w' : World} {a : Option Addr} {l : List Sg} {r : Option Nat} {B : Nat} (h : SO w a l) (hg : w.grownBy w' r) (ha : ∀ b o, a = some ⟨b, o, none⟩ → b < B) (hB : ∀ j, r = some j → B ≤ j) : SO w' a l := by
  rcases h with h | ⟨b, o, rfl, h2⟩
  · exact .inl h
  · refine .inr ⟨b, o, rfl, fun j hj => ?_⟩
    obtain ⟨h3, h4⟩ := h2 j hj
    have hlt := World.block_lt_of_cell? w _ h3
    have hbl := hg.block b hlt (fun e => by have := ha b o rfl; have := hB b e.symm; omega)
    exact ⟨by rw [World.cell?_of_block (w := w) (a := ⟨b, o + j * 2, none⟩) hbl]; exact h3, by rw [World.cell?_of_block (w := w) (a := ⟨b, o + j * 2 + 1, none⟩) hbl]; exact h4⟩
end Go.Proofs.YtajfmjgaaapjeaaGreatDoor
