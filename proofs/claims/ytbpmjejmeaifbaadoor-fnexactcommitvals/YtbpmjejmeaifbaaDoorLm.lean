/- What the laws' helpers markText, markCSigS and markCommit answer; only the marked row is written. Conditions: rows that a machine can hold. -/
import Derived.Test.YtbpmjejmeaifbaaDoorLc
import Derived.Deep.MidRow
import Derived.Deep.Heap
namespace Go.Proofs.YtbpmjejmeaifbaaDoor
open Go.RowKit
open Num
set_option linter.unusedVariables false
def mdF : Nat → Nat → ByteArray → ByteArray
  | 0, _, o => o
  | f + 1, k, o => if k = 0 then o else mdF f (k / 10) (⟨#[UInt8.ofNat (48 + k % 10)]⟩ ++ o)
/-- The mark number k. -/
def mtxt (k : Nat) : ByteArray := ⟨#[109]⟩ ++ mdF k k ⟨#[]⟩
theorem size_sing (x : UInt8) : (⟨#[x]⟩ : ByteArray).size = 1 := rfl
set_option maxHeartbeats 800000 in
theorem mtext_any (k : Nat) (hk : 1 ≤ k) (hm : k ≤ 1099511627776) (w : World) :
    Calls Tryd.prog 85 #[.int .i64 (k : Int)] w fun e w' => e = .returned (.string (mtxt k)) ∧ Below w.heap.size w w' := by
  have hk0 : ¬ (k : Int) ≤ 0 := by omega
  go_enter Tryd.func85, Tryd.ntmps85
  go_wp2
  go_loopw [0, 3] (fun kk out wr => ∃ (m f : Nat) (x : ByteArray), kk = .int .i64 m ∧ out = .string x ∧ m ≤ f ∧ x.size + m ≤ k ∧ Hid (mdF k k ⟨#[]⟩ = mdF f m x) ∧ Below w.heap.size w wr) (fun kk _ _ => (intOf kk).toNat)
  case atStart => exact ⟨k, k, ⟨#[]⟩, rfl, rfl, Nat.le_refl _, by show 0 + k ≤ k; omega, rfl, Below.refl _ _⟩
  case round =>
    obtain ⟨m, f, x, rfl, rfl, hmf, hxm, HM, hb⟩ := hrel
    by_cases hpos : 0 < m
    · obtain ⟨f', rfl⟩ : ∃ f', f = f' + 1 := ⟨f - 1, by omega⟩
      have hp' : (0 : Int) < (m : Int) := by omega
      have hr : (m : Int).tmod 10 = ((m % 10 : Nat) : Int) := by rw [Int.tmod_eq_emod_of_nonneg (by omega)]; omega
      have hq : (m : Int).tdiv 10 = ((m / 10 : Nat) : Int) := by rw [Int.tdiv_eq_ediv_of_nonneg (by omega)]; omega
      obtain ⟨r, hrr⟩ : ∃ r, m % 10 = r := ⟨_, rfl⟩
      obtain ⟨d, hd⟩ : ∃ d, m / 10 = d := ⟨_, rfl⟩
      have HS : Hid (mdF (f' + 1) m x = mdF f' d (⟨#[UInt8.ofNat (48 + r)]⟩ ++ x)) := by
        show _ = _
        conv => lhs; unfold mdF
        rw [if_neg (by omega), hrr, hd]
      rw [hrr] at hr
      rw [hd] at hq
      have hr10 : r < 10 := by omega
      have hdm : d < m := by omega
      have hcv := run_str_one (P := Tryd.prog) wr 22 9 5 Tryd.underlying22 Tryd.underlying5 Tryd.underlying9 (48 + (r : Int)) (by omega) (by omega)
      rw [show (48 + (r : Int)).toNat = 48 + r from by omega] at hcv
      clear hrr hd
      have hsz : wr.heap.size = wr.heap.size := rfl
      have hb2 := hb.alloc hb.size (.cells #[.int .u8 (48 + (r : Int))] 5)
      generalize hB : UInt8.ofNat (48 + r) = B at *
      have hs1 : (⟨#[B]⟩ : ByteArray).size = 1 := rfl
      clear hB
      go_wp2
      go_roundw
      case rel =>
        refine ⟨d, f', ⟨#[B]⟩ ++ x, rfl, rfl, by omega, ?_, ?_, hb2⟩
        · rw [ByteArray.size_append, hs1]; omega
        · rw [← HS.out]; exact HM
      case measure => simp [intOf]; omega
    · obtain rfl : m = 0 := by omega
      have HF : Hid (mtxt k = ⟨#[109]⟩ ++ x) := by
        show _ = _
        unfold mtxt
        rw [HM.out]
        cases f <;> rfl
      go_wp2
      go_ret
      exact ⟨by rw [HF.out]; rfl, hb⟩
/-- So many signatures, marked from k on. -/
def marks (k : Nat) : Nat → List Sg
  | 0 => []
  | n + 1 => marks k n ++ [⟨((k + 2 * n : Nat) : Int), mtxt (k + 2 * n + 1)⟩]
theorem marks_length (k : Nat) : ∀ n, (marks k n).length = n
  | 0 => rfl
  | n + 1 => by rw [marks, List.length_append, marks_length k n]; rfl
theorem marks_at (k : Nat) : ∀ n j (h : j < (marks k n).length), (marks k n)[j] = ⟨((k + 2 * j : Nat) : Int), mtxt (k + 2 * j + 1)⟩
  | n + 1, j, h => by
    have hl := marks_length k n
    have hl' := marks_length k (n + 1)
    by_cases e : j = n
    · subst e
      have : (marks k (j + 1))[j]? = some ⟨((k + 2 * j : Nat) : Int), mtxt (k + 2 * j + 1)⟩ := by
        rw [marks, List.getElem?_append_right (by omega), hl]; simp
      rw [List.getElem?_eq_getElem h] at this
      exact Option.some.inj this
    · have ih := marks_at k n j (by omega)
      have : (marks k (n + 1))[j]? = some ⟨((k + 2 * j : Nat) : Int), mtxt (k + 2 * j + 1)⟩ := by
        rw [marks, List.getElem?_append_left (by omega), List.getElem?_eq_getElem (by omega), ih]
      rw [List.getElem?_eq_getElem h] at this
      exact Option.some.inj this
theorem gr_refl (w : World) (r : Option Nat) : w.grownBy w r := ⟨rfl, rfl, rfl, Nat.le_refl _, fun _ _ _ => rfl⟩
theorem gr_trans {a b c : World} {r : Option Nat} (h : a.grownBy b r) (k : b.grownBy c r) : a.grownBy c r :=
  ⟨k.os.trans h.os, k.tape.trans h.tape, k.output.trans h.output, Nat.le_trans h.size k.size, fun j hj hr => (k.block j (Nat.lt_of_lt_of_le hj h.size) hr).trans (h.block j hj hr)⟩
theorem gr_set (w : World) (g j : Nat) (u : Value) : w.grownBy (w.setCell ⟨g, j, none⟩ u) (some g) :=
  ⟨rfl, rfl, rfl, by rw [Deep.nblk_setCell]; exact Nat.le_refl _, fun k _ hr => Deep.blk_setCell_other w ⟨g, j, none⟩ u k (fun e => hr (by rw [e]))⟩
theorem gr_of_below {w w' : World} {r : Option Nat} (h : Below w.heap.size w w') : w.grownBy w' r := ⟨h.os, h.tape, h.output, h.size, fun k hk _ => h.block k hk⟩
set_option maxHeartbeats 1600000 in
theorem mark_sgs (b cap n k : Nat) (w : World) (hr : Room w b 0 (n * 2)) (hn : n ≤ 1048576) (hk : k ≤ 1048576) :
    Calls Tryd.prog 56 #[.slice (some ⟨b, 0, none⟩) n cap, .int .i64 (k : Int)] w fun e w' => e = .returned (.int .i64 ((k + 2 * n : Nat) : Int)) ∧ SAt w' b 0 (marks k n) ∧ w.grownBy w' (some b) := by
  have HR0 : Hid (Room w b 0 (n * 2)) := hr
  clear hr
  go_enter Tryd.func56, Tryd.ntmps56
  go_wp2
  go_loopw [5, 1] (fun iv kv wr => ∃ j : Nat, j ≤ n ∧ iv = .int .i64 j ∧ kv = .int .i64 ((k + 2 * j : Nat) : Int) ∧ Hid (SAt wr b 0 (marks k j)) ∧ Hid (Room wr b 0 (n * 2)) ∧ Hid (w.grownBy wr (some b))) (fun iv _ _ => n - (intOf iv).toNat)
  case atStart => exact ⟨0, Nat.zero_le _, rfl, by simp, fun j hj => by simp [marks] at hj, HR0.out, gr_refl _ _⟩
  case round =>
    obtain ⟨j, hj, rfl, rfl, HA, HR, HG⟩ := hrel
    by_cases hlt : j < n
    · have hltz : (j : Int) < (n : Int) := by omega
      obtain ⟨s1, f1⟩ := HR.out (j * 2) (by omega)
      rw [Nat.zero_add] at s1 f1
      obtain ⟨u1, e1⟩ := Option.isSome_iff_exists.1 s1
      have kM := fun W => mtext_any (k + 2 * j + 1) (by omega) (by omega) W
      rw [show ((k + 2 * j + 1 : Nat) : Int) = ((k + 2 * j : Nat) : Int) + 1 from by omega] at kM
      have HM : Hid (marks k (j + 1) = marks k j ++ [⟨((k + 2 * j : Nat) : Int), mtxt (k + 2 * j + 1)⟩]) := rfl
      have HE : Hid (((k + 2 * j : Nat) : Int) + 1 + 1 = ((k + 2 * (j + 1) : Nat) : Int)) := by show _ = _; omega
      generalize mtxt (k + 2 * j + 1) = T at *
      obtain ⟨K, hK⟩ : ∃ K : Int, ((k + 2 * j : Nat) : Int) = K := ⟨_, rfl⟩
      have hK0 : 0 ≤ K := by omega
      have hK1 : K ≤ 1099511627776 := by omega
      rw [hK] at kM ⊢
      have HM2 : Hid (marks k (j + 1) = marks k j ++ [⟨K, T⟩]) := by show _ = _; rw [HM.out, hK]
      have HE2 : Hid (K + 1 + 1 = ((k + 2 * (j + 1) : Nat) : Int)) := by show _ = _; rw [← hK]; exact HE.out
      clear hK HM HE
      have hbl : b < wr.heap.size := World.block_lt_of_cell? wr _ e1
      clear s1
      go_wp2_with fail
      have HG1 : Hid (wr.grownBy (wr.setCell ⟨b, j * 2, none⟩ (.int .i64 K)) (some b)) := gr_set _ _ _ _
      have HR1 : Hid (Room (wr.setCell ⟨b, j * 2, none⟩ (.int .i64 K)) b 0 (n * 2)) := HR.out.set _ _ _
      have HV1 : Hid ((wr.setCell ⟨b, j * 2, none⟩ (.int .i64 K)).cell? ⟨b, j * 2, none⟩ = some (.int .i64 K)) := World.cell?_setCell_same _ _ _ e1
      have HA1 : Hid (∀ (i : Nat) (hi : i < (marks k j).length), (wr.setCell ⟨b, j * 2, none⟩ (.int .i64 K)).cell? ⟨b, 0 + i * 2, none⟩ = some (.int .i64 (marks k j)[i].v) ∧ (wr.setCell ⟨b, j * 2, none⟩ (.int .i64 K)).cell? ⟨b, 0 + i * 2 + 1, none⟩ = some (.string (marks k j)[i].s)) := fun i hi => by
        have hi' : i < j := by rw [marks_length] at hi; exact hi
        obtain ⟨q1, q2⟩ := HA.out i hi
        exact ⟨by rw [World.cell?_setCell_other wr ⟨b, j * 2, none⟩ ⟨b, 0 + i * 2, none⟩ _ (fun e => by injection e; omega)]; exact q1, by rw [World.cell?_setCell_other wr ⟨b, j * 2, none⟩ ⟨b, 0 + i * 2 + 1, none⟩ _ (fun e => by injection e; omega)]; exact q2⟩
      generalize wr.setCell ⟨b, j * 2, none⟩ (.int .i64 K) = w1 at *
      refine (kM _).mono ?_
      rintro e w2 ⟨rfl, b2⟩
      have HR2 : Hid (Room w2 b 0 (n * 2)) := HR1.out.below b2
      have hb1 : b < w1.heap.size := Nat.lt_of_lt_of_le hbl HG1.out.size
      have HV2 : Hid (w2.cell? ⟨b, j * 2, none⟩ = some (.int .i64 K)) := (b2.cell (p := ⟨b, j * 2, none⟩) hb1).trans HV1.out
      have HA2 : Hid (SAt w2 b 0 (marks k j)) := SAt.below (w := w1) HA1.out b2 hb1
      have HG2 : Hid (w.grownBy w2 (some b)) := gr_trans (gr_trans HG.out HG1.out) (gr_of_below b2)
      obtain ⟨s2, f2⟩ := HR2.out (j * 2 + 1) (by omega)
      rw [Nat.zero_add] at s2 f2
      obtain ⟨u2, e2⟩ := Option.isSome_iff_exists.1 s2
      clear s2 b2 HV1 HA1 HR1 HG1 HG HA HR e1 f1 kM
      have HF : Hid (SAt (w2.setCell ⟨b, j * 2 + 1, none⟩ (.string T)) b 0 (marks k (j + 1))) := by
        show SAt _ _ _ _
        rw [HM2.out]
        intro i hi
        by_cases hij : i < j
        · obtain ⟨q1, q2⟩ := HA2.out i (by rw [marks_length]; exact hij)
          rw [World.cell?_setCell_other _ ⟨b, j * 2 + 1, none⟩ ⟨b, 0 + i * 2, none⟩ _ (fun e => by injection e; omega), World.cell?_setCell_other _ ⟨b, j * 2 + 1, none⟩ ⟨b, 0 + i * 2 + 1, none⟩ _ (fun e => by injection e; omega), q1, q2]
          simp [List.getElem_append_left, marks_length, hij]
        · have hlm := marks_length k j
          have : i = j := by rw [List.length_append, hlm] at hi; simp at hi; omega
          subst this
          rw [Nat.zero_add, World.cell?_setCell_other _ ⟨b, i * 2 + 1, none⟩ ⟨b, i * 2, none⟩ _ (fun e => by injection e; omega), World.cell?_setCell_same _ _ _ e2, HV2.out]
          simp [List.getElem_append_right, hlm]
      have HG3 : Hid (w.grownBy (w2.setCell ⟨b, j * 2 + 1, none⟩ (.string T)) (some b)) := gr_trans HG2.out (gr_set _ _ _ _)
      have HR3 : Hid (Room (w2.setCell ⟨b, j * 2 + 1, none⟩ (.string T)) b 0 (n * 2)) := HR2.out.set _ _ _
      go_wp2
      go_roundw
      case rel => exact ⟨j + 1, by omega, by go_num, by rw [← HE2.out], HF, HR3, HG3⟩
      case measure => simp [intOf]; omega
    · have hltz : ¬ (j : Int) < (n : Int) := by omega
      have hjl : j = n := by omega
      subst hjl
      go_wp2
      go_ret
      exact ⟨rfl, HA.out, HG.out⟩
theorem mark_nil (a : Option Addr) (cap k : Nat) (w : World) :
    Calls Tryd.prog 56 #[.slice a 0 cap, .int .i64 (k : Int)] w fun e w' => e = .returned (.int .i64 (k : Int)) ∧ w' = w := by
  go_enter Tryd.func56, Tryd.ntmps56
  go_wp2
  refine wp_loop_rounds 1 ?_
  rw [rounds_succ]
  go_wp2
  go_ret
  exact ⟨rfl, rfl⟩
/-- What may be marked: nothing, or a row from B on. -/
def Mk (w : World) (B : Nat) (a : Option Addr) (n : Nat) : Prop := n = 0 ∨ ∃ b, a = some ⟨b, 0, none⟩ ∧ B ≤ b ∧ b < w.heap.size ∧ Room w b 0 (n * 2)
theorem Mk.below {w w' : World} {B n : Nat} {a : Option Addr} (h : Mk w B a n) (hb : Below w.heap.size w w') : Mk w' B a n := by
  rcases h with h | ⟨b, h1, h2, h3, h4⟩
  · exact .inl h
  · exact .inr ⟨b, h1, h2, by have := hb.size; omega, h4.below hb⟩
theorem Cop.mk {w : World} {B : Nat} {x : Ct} {a : Option Addr} (h : Cop w B x a) : Mk w B a x.l.length := by
  obtain ⟨b, rfl, h0, h1, h2, h3⟩ := h
  exact .inr ⟨b, rfl, h0, h1, h3⟩
theorem mark_row (a : Option Addr) (cap n k B : Nat) (w : World) (h : Mk w B a n) (hn : n ≤ 1048576) (hk : k ≤ 1048576) :
    Calls Tryd.prog 56 #[.slice a n cap, .int .i64 (k : Int)] w fun e w' => e = .returned (.int .i64 ((k + 2 * n : Nat) : Int)) ∧ SO w' a (marks k n) ∧ ∃ r : Option Nat, (∀ j, r = some j → B ≤ j ∧ a = some ⟨j, 0, none⟩) ∧ w.grownBy w' r := by
  rcases h with rfl | ⟨b, rfl, h1, _, h2⟩
  · refine (mark_nil a cap k w).mono ?_
    rintro e w' ⟨rfl, rfl⟩
    exact ⟨by simp, .inl (marks_length k 0), none, fun j e => (by cases e), gr_refl _ _⟩
  · refine (mark_sgs b cap n k w h2 hn hk).mono ?_
    rintro e w' ⟨rfl, h3, h4⟩
    exact ⟨rfl, h3.o, some b, fun j e => (by injection e with e; subst e; exact ⟨h1, rfl⟩), h4⟩
set_option maxHeartbeats 400000 in
theorem mark_com (x : Ct) (a : Option Addr) (cap k B : Nat) (w : World) (h : Mk w B a x.l.length) (hn : x.l.length ≤ 1048576) (hk : k ≤ 1048576) (hB : B ≤ w.heap.size) :
    Calls Tryd.prog 26 #[cV x a cap, .int .i64 (k : Int)] w fun e w' => e = .returned (.int .i64 ((k + 2 * x.l.length : Nat) : Int)) ∧ SO w' a (marks k x.l.length) ∧ ∃ r : Option Nat, (∀ j, r = some j → B ≤ j ∧ a = some ⟨j, 0, none⟩) ∧ w.grownBy w' r := by
  have HX : Hid (Blk (w.alloc (.cells (ccs x a cap).toArray 33)) w.heap.size (ccs x a cap) 33) := blk_new w _ _
  have HG : Hid (w.grownBy (w.alloc (.cells (ccs x a cap).toArray 33)) none) := gr_of_below (below_one _ _)
  have kM := fun W (h : Mk W B a x.l.length) => mark_row a cap x.l.length k B W h hn hk
  have HM : Hid (Mk (w.alloc (.cells (ccs x a cap).toArray 33)) B a x.l.length) := h.below (below_one _ _)
  have HF : Hid (∀ (W : World) (g : Option Nat), (w.alloc (.cells (ccs x a cap).toArray 33)).grownBy W g → w.grownBy W g) := fun W g hg => gr_trans (gr_of_below (below_one _ _)) hg
  clear h HG
  obtain ⟨h, r, i, l⟩ := x
  unfold cV
  unfold ccs at *
  simp only at HX kM HM HF hn ⊢
  have x3 := HX.out.cell 3 rfl
  go_enter Tryd.func26, Tryd.ntmps26
  go_wp2_with fail
  refine (kM _ HM.out).mono ?_
  rintro e w1 ⟨rfl, hs, g, hg, hgr⟩
  go_wp2
  go_ret
  exact ⟨rfl, hs, g, hg, HF.out _ _ hgr⟩
theorem SO.far {w w' : World} {a : Option Addr} {l : List Sg} {r : Option Nat} {B : Nat} (h : SO w a l) (hg : w.grownBy w' r) (ha : ∀ b o, a = some ⟨b, o, none⟩ → b < B) (hB : ∀ j, r = some j → B ≤ j) : SO w' a l := by
  rcases h with h | ⟨b, o, rfl, h2⟩
  · exact .inl h
  · refine .inr ⟨b, o, rfl, fun j hj => ?_⟩
    obtain ⟨h3, h4⟩ := h2 j hj
    have hlt := World.block_lt_of_cell? w _ h3
    have hbl := hg.block b hlt (fun e => by have := ha b o rfl; have := hB b e.symm; omega)
    exact ⟨by rw [World.cell?_of_block (w := w) (a := ⟨b, o + j * 2, none⟩) hbl]; exact h3, by rw [World.cell?_of_block (w := w) (a := ⟨b, o + j * 2 + 1, none⟩) hbl]; exact h4⟩
end Go.Proofs.YtbpmjejmeaifbaaDoor
