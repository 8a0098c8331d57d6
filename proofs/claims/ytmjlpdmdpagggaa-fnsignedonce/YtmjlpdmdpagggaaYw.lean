/- Rows of votes in cells; room in a row; the laws' marks. Conditions: none of ours. -/
import Derived.Test.YtmjlpdmdpagggaaGm
import Derived.Test.YtmjlpdmdpagggaaCur
import Derived.Laws.OwnMore
import Derived.Deep.MidRow
import Derived.Deep.Heap
namespace Go.Proofs.Ytmjlpdmdpagggaa
open Go.RowKit
open Num
set_option linter.unusedVariables false
def yLs (x : Vt) : List Value := [.int .i64 x.h, .int .i64 x.r, .int .i64 x.s, .string x.i, .int .i64 x.v]
theorem flat_len {α : Type} (f : α → List Value) (n : Nat) (hf : ∀ x, (f x).length = n) : ∀ l : List α, (l.flatMap f).length = l.length * n
  | [] => by simp
  | x :: l => by rw [List.flatMap_cons, List.length_append, hf, flat_len f n hf l, List.length_cons, Nat.add_mul]; omega
theorem flat_at {α : Type} (f : α → List Value) (n : Nat) (hf : ∀ x, (f x).length = n) : ∀ (l : List α) (j : Nat) (hj : j < l.length) (c : Nat) (hc : c < n), (l.flatMap f)[j * n + c]? = (f l[j])[c]?
  | x :: l, 0, _, c, hc => by rw [List.flatMap_cons, List.getElem?_append_left (by rw [hf]; omega)]; simp
  | x :: l, j + 1, hj, c, hc => by
    have ih := flat_at f n hf l j (by simpa using hj) c hc
    rw [List.flatMap_cons, List.getElem?_append_right (by rw [hf, Nat.add_mul]; omega), hf, show (j + 1) * n + c - n = j * n + c from by rw [Nat.add_mul]; omega, ih]
    simp
/-- Votes in cells from a place on. -/
def YAt (w : World) (b o : Nat) (l : List Vt) : Prop := ∀ j (hj : j < l.length) c, c < 5 → w.cell? ⟨b, o + j * 5 + c, none⟩ = (yLs l[j])[c]?
def YO (w : World) (a : Option Addr) (l : List Vt) : Prop := l.length = 0 ∨ ∃ b o, a = some ⟨b, o, none⟩ ∧ YAt w b o l
theorem YAt.lt {w : World} {b o : Nat} {l : List Vt} (h : YAt w b o l) (h0 : 0 < l.length) : b < w.heap.size := World.block_lt_of_cell? w _ (h 0 h0 0 (by omega))
theorem YAt.below {w w' : World} {B b o : Nat} {l : List Vt} (h : YAt w b o l) (hb : Below B w w') (hB : b < B) : YAt w' b o l := fun j hj c hc =>
  (hb.cell (p := ⟨b, o + j * 5 + c, none⟩) hB).trans (h j hj c hc)
theorem YO.below {w w' : World} {a : Option Addr} {l : List Vt} (h : YO w a l) (hb : Below w.heap.size w w') : YO w' a l := by
  rcases h with h | ⟨b, o, h1, h2⟩
  · exact .inl h
  · rcases Nat.eq_zero_or_pos l.length with h0 | h0
    · exact .inl h0
    · exact .inr ⟨b, o, h1, h2.below hb (h2.lt h0)⟩
theorem YAt.five {w : World} {b o : Nat} {l : List Vt} (h : YAt w b o l) (j : Nat) (hj : j < l.length) :
    w.cell? ⟨b, o + j * 5, none⟩ = some (.int .i64 l[j].h) ∧ w.cell? ⟨b, o + j * 5 + 1, none⟩ = some (.int .i64 l[j].r) ∧ w.cell? ⟨b, o + j * 5 + 2, none⟩ = some (.int .i64 l[j].s) ∧ w.cell? ⟨b, o + j * 5 + 3, none⟩ = some (.string l[j].i) ∧ w.cell? ⟨b, o + j * 5 + 4, none⟩ = some (.int .i64 l[j].v) :=
  ⟨h j hj 0 (by omega), h j hj 1 (by omega), h j hj 2 (by omega), h j hj 3 (by omega), h j hj 4 (by omega)⟩
theorem YAt.grown {w w' : World} {b o : Nat} {l : List Vt} {r : Option Nat} (h : YAt w b o l) (hg : w.grownBy w' r) (hr : r ≠ some b) : YAt w' b o l := fun j hj c hc => by
  have hlt := h.lt (by omega)
  rw [World.cell?_of_block (w := w) (a := ⟨b, o + j * 5 + c, none⟩) (hg.block b hlt (fun e => hr e.symm))]
  exact h j hj c hc
theorem YO.far {w w' : World} {a : Option Addr} {l : List Vt} {r : Option Nat} {B : Nat} (h : YO w a l) (hg : w.grownBy w' r) (ha : ∀ b o, a = some ⟨b, o, none⟩ → b < B) (hB : ∀ j, r = some j → B ≤ j) : YO w' a l := by
  rcases h with h | ⟨b, o, rfl, h2⟩
  · exact .inl h
  · exact .inr ⟨b, o, rfl, h2.grown hg (fun e => by have := ha b o rfl; have := hB b e; omega)⟩
theorem YAt.of {w w' : World} {b o : Nat} {l : List Vt} (h : YAt w b o l) (hc : ∀ p, p < l.length * 5 → w'.cell? ⟨b, o + p, none⟩ = w.cell? ⟨b, o + p, none⟩) : YAt w' b o l := fun j hj c hc' => by
  have h1 := hc (j * 5 + c) (by omega)
  rw [← Nat.add_assoc] at h1
  rw [h1]; exact h j hj c hc'
theorem YAt.snoc_of {w : World} {b o : Nat} {l : List Vt} {v : Vt} (h : YAt w b o l) (hc : ∀ c, c < 5 → w.cell? ⟨b, o + l.length * 5 + c, none⟩ = (yLs v)[c]?) : YAt w b o (l ++ [v]) := fun j hj c hc' => by
  by_cases hjl : j < l.length
  · rw [List.getElem_append_left hjl]; exact h j hjl c hc'
  · have hjl2 : j = l.length := by simp at hj; omega
    subst hjl2
    have hv : (l ++ [v])[l.length] = v := by simp
    rw [hv]; exact hc c hc'
def ycs (l : List Vt) : List Value := l.flatMap yLs
abbrev OwnY (w : World) (B : Nat) (v : Value) (l : List Vt) : Prop := w.ownsRow B 31 5 v l.length (ycs l)
theorem ycs_snoc (l : List Vt) (y : Vt) : ycs (l ++ [y]) = ycs l ++ yLs y := by simp [ycs]
theorem y_one (y : Vt) : ∀ u ∈ yLs y, u.oneCell' = true := by
  intro u hu
  unfold yLs at hu
  simp only [List.mem_cons, List.not_mem_nil, or_false] at hu
  rcases hu with rfl | rfl | rfl | rfl | rfl <;> rfl
theorem own_snocY {w : World} {B : Nat} {v : Value} {l : List Vt} {y : Vt} (h : w.ownsRow B 31 5 v (l.length + 1) (ycs l ++ yLs y)) : OwnY w B v (l ++ [y]) := by
  unfold OwnY; rw [ycs_snoc, List.length_append]; exact h
theorem OwnY.o {w : World} {B : Nat} {v : Value} {l : List Vt} (h : OwnY w B v l) : ∃ a cap, v = .slice a l.length cap ∧ YO w a l ∧ l.length ≤ cap ∧ cap ≤ 9223372036854775807 := by
  have h' := h
  rcases h.2 with ⟨rfl, hn⟩ | ⟨g, cap, cur, rfl, _, hg, hnc, hcm, _⟩
  · exact ⟨none, 0, by rw [hn], .inl hn, by omega, by omega⟩
  · refine ⟨some ⟨g, 0, none⟩, cap, rfl, .inr ⟨g, 0, rfl, fun j hj c hc => ?_⟩, hnc, hcm⟩
    rw [Nat.zero_add, h'.cellAt (j * 5 + c) (by omega)]
    exact flat_at yLs 5 (fun _ => rfl) l j hj c hc
theorem grown_of {w w' : World} {r : Option Nat} (h : Below w.heap.size w w') : w.grownBy w' r := ⟨h.os, h.tape, h.output, h.size, fun k hk _ => h.block k hk⟩
theorem gr_set (w : World) (g j : Nat) (u : Value) : w.grownBy (w.setCell ⟨g, j, none⟩ u) (some g) := grown_set (grown_refl _ _) u
theorem gr_bel {a b c : World} {r : Option Nat} (h : a.grownBy b r) (k : Below b.heap.size b c) : a.grownBy c r := grown_trans h (grown_of k)
theorem own_less {w : World} {B B' : Nat} {e : TypeId} {size : Nat} {v : Value} {n : Nat} {xs : List Value} (h : w.ownsRow B e size v n xs) (hB : B' ≤ B) : w.ownsRow B' e size v n xs := by
  obtain ⟨h1, h2⟩ := h
  refine ⟨h1, ?_⟩
  rcases h2 with h2 | ⟨g, cap, cur, hv, hg, r⟩
  · exact Or.inl h2
  · exact Or.inr ⟨g, cap, cur, hv, Nat.le_trans hB hg, r⟩
theorem own_keep {w w' : World} {B : Nat} {e : TypeId} {size : Nat} {v : Value} {n : Nat} {xs : List Value} (h : w.ownsRow B e size v n xs) (hb : Below w.heap.size w w') : w'.ownsRow B e size v n xs := by
  obtain ⟨h1, h2⟩ := h
  refine ⟨h1, ?_⟩
  rcases h2 with h2 | ⟨g, cap, cur, hv, hg, hh, r⟩
  · exact Or.inl h2
  · exact Or.inr ⟨g, cap, cur, hv, hg, by rw [hb.block g ((Array.getElem?_eq_some_iff.1 hh).1)]; exact hh, r⟩
theorem own_still {W W' : World} {B n : Nat} {e : TypeId} {size : Nat} {r : Option Nat} {v : Value} {xs : List Value} (h : W.ownsRow B e size v n xs) (hg : W.grownBy W' r) (hr : ∀ j, r = some j → j < B) : W'.ownsRow B e size v n xs := by
  obtain ⟨h1, h2⟩ := h
  refine ⟨h1, ?_⟩
  rcases h2 with h2 | ⟨g, cap, cur, hv, hb, hh, r'⟩
  · exact Or.inl h2
  · exact Or.inr ⟨g, cap, cur, hv, hb, by rw [hg.block g ((Array.getElem?_eq_some_iff.1 hh).1) (fun e => by have := hr g e.symm; omega)]; exact hh, r'⟩
theorem own_hold {w w' : World} {B e s n : Nat} {v : Value} {xs : List Value} (h : w.ownsRow B e s v n xs) (hb : Below w.heap.size w w') : w'.ownsRow B e s v n xs := h.kept (row := none) (grown_of hb) (by cases v.ownBlock <;> simp)
theorem cell_off (w : World) (q j k : Nat) (u : Value) (h : j ≠ k) : (w.setCell ⟨q, j, none⟩ u).cell? ⟨q, k, none⟩ = w.cell? ⟨q, k, none⟩ :=
  World.cell?_setCell_other _ _ _ _ (fun e => h (by injection e))
def Room (w : World) (b o n : Nat) : Prop := ∀ j, j < n → (w.cell? ⟨b, o + j, none⟩).isSome = true ∧ w.frozen? ⟨b, o + j, none⟩ = false
theorem Room.below {w w' : World} {b o n : Nat} (h : Room w b o n) (hb : Below w.heap.size w w') : Room w' b o n := fun j hj => by
  obtain ⟨h1, h2⟩ := h j hj
  obtain ⟨u, hu⟩ := Option.isSome_iff_exists.1 h1
  have hlt := World.block_lt_of_cell? w _ hu
  exact ⟨by rw [hb.cell (p := ⟨b, o + j, none⟩) hlt]; exact h1, by rw [hb.frozen (p := ⟨b, o + j, none⟩) hlt]; exact h2⟩
theorem some_set (w : World) (a x : Addr) (u : Value) (h : (w.cell? x).isSome = true) : ((w.setCell a u).cell? x).isSome = true := by
  by_cases e : x = a
  · subst e; rw [World.cell?_setCell_same' w x u h]; rfl
  · rw [World.cell?_setCell_other w a x u (fun h => e h.symm)]; exact h
theorem Room.set {w : World} {b o n : Nat} (h : Room w b o n) (g p : Nat) (u : Value) : Room (w.setCell ⟨g, p, none⟩ u) b o n := fun j hj => by
  obtain ⟨h1, h2⟩ := h j hj
  exact ⟨some_set w _ _ u h1, by rw [World.frozen?_setCell]; exact h2⟩
def mdF : Nat → Nat → ByteArray → ByteArray
  | 0, _, o => o
  | f + 1, k, o => if k = 0 then o else mdF f (k / 10) (⟨#[UInt8.ofNat (48 + k % 10)]⟩ ++ o)
/-- The mark number k. -/
def mtxt (k : Nat) : ByteArray := ⟨#[109]⟩ ++ mdF k k ⟨#[]⟩
theorem size_sing (x : UInt8) : (⟨#[x]⟩ : ByteArray).size = 1 := rfl
set_option maxHeartbeats 800000 in
set_option maxRecDepth 100000 in
theorem mtext_any (k : Nat) (hk : 1 ≤ k) (hm : k ≤ 1099511627776) (w : World) :
    Calls Try.prog 79 #[.int .i64 (k : Int)] w fun e w' => e = .returned (.string (mtxt k)) ∧ Below w.heap.size w w' := by
  have hk0 : ¬ (k : Int) ≤ 0 := by omega
  go_enter Try.func79, Try.ntmps79
  go_wp2
  go_loopw [0, 3] (fun kk out wr => ∃ (m f : Nat) (x : ByteArray), kk = .int .i64 m ∧ out = .string x ∧ m ≤ f ∧ x.size + m ≤ k ∧ Hid (mdF k k ⟨#[]⟩ = mdF f m x) ∧ Below w.heap.size w wr) (fun kk _ _ => (intOf kk).toNat)
  case atStart => exact ⟨k, k, ⟨#[]⟩, rfl, rfl, Nat.le_refl _, by show 0 + k ≤ k; omega, rfl, Below.refl _ _⟩
  case round =>
    obtain ⟨m, f, x, rfl, rfl, hmf, hxm, HM, hb⟩ := hrel
    by_cases hpos : 0 < m
    · obtain ⟨f', rfl⟩ : ∃ f', f = f' + 1 := ⟨f - 1, by omega⟩
      have hp' : (0 : Int) < (m : Int) := by omega
      have hr : (m : Int).tmod 10 = ((m % 10 : Nat) : Int) := by rw [Int.tmod_eq_emod_of_nonneg (by omega)]; omega
      have hq : (m : Int).tdiv 10 = ((m / 10 : Nat) : Int) := by rw [Int.tdiv_eq_ediv_of_nonneg (by omega)]; omega
      obtain ⟨r, hrr⟩ : ∃ r, m % 10 = r := ⟨_, rfl⟩
      obtain ⟨d, hd⟩ : ∃ d, m / 10 = d := ⟨_, rfl⟩
      have HS : Hid (mdF (f' + 1) m x = mdF f' d (⟨#[UInt8.ofNat (48 + r)]⟩ ++ x)) := by
        show _ = _
        conv => lhs; unfold mdF
        rw [if_neg (by omega), hrr, hd]
      rw [hrr] at hr
      rw [hd] at hq
      have hr10 : r < 10 := by omega
      have hdm : d < m := by omega
      have hcv := run_str_one (P := Try.prog) wr 22 9 5 Try.underlying22 Try.underlying5 Try.underlying9 (48 + (r : Int)) (by omega) (by omega)
      rw [show (48 + (r : Int)).toNat = 48 + r from by omega] at hcv
      clear hrr hd
      have hsz : wr.heap.size = wr.heap.size := rfl
      have hb2 := hb.alloc hb.size (.cells #[.int .u8 (48 + (r : Int))] 5)
      generalize hB : UInt8.ofNat (48 + r) = B at *
      have hs1 : (⟨#[B]⟩ : ByteArray).size = 1 := rfl
      clear hB
      go_wp2
      go_roundw
      case rel =>
        refine ⟨d, f', ⟨#[B]⟩ ++ x, rfl, rfl, by omega, ?_, ?_, hb2⟩
        · rw [ByteArray.size_append, hs1]; omega
        · rw [← HS.out]; exact HM
      case measure => simp [intOf]; omega
    · obtain rfl : m = 0 := by omega
      have HF : Hid (mtxt k = ⟨#[109]⟩ ++ x) := by
        show _ = _
        unfold mtxt
        rw [HM.out]
        cases f <;> rfl
      go_wp2
      go_ret
      exact ⟨by rw [HF.out]; rfl, hb⟩
theorem infoYf : ∃ i, Try.prog.info? 31 = some i ∧ i.zero = some (.agg #[.int .i64 0, .int .i64 0, .int .i64 0, .string ⟨#[]⟩, .int .i64 0]) ∧ i.size = 5 ∧ i.bytes = 48 :=
  info_parts (by kernel_rfl)
theorem cell_in (w : World) (q j : Nat) (u : Value) (h : (w.cell? ⟨q, j, none⟩).isSome = true) : (w.setCell ⟨q, j, none⟩ u).cell? ⟨q, j, none⟩ = some u := World.cell?_setCell_same' w _ u h
/-- Three cells written. -/
def set3 (w : World) (b p : Nat) (u0 u1 u2 : Value) : World := ((w.setCell ⟨b, p, none⟩ u0).setCell ⟨b, p + 1, none⟩ u1).setCell ⟨b, p + 2, none⟩ u2
theorem set3_facts {w : World} {b n p : Nat} (u0 u1 u2 : Value) (h : Room w b 0 n) (hp : p + 2 < n) :
    (set3 w b p u0 u1 u2).cell? ⟨b, p, none⟩ = some u0 ∧ (set3 w b p u0 u1 u2).cell? ⟨b, p + 1, none⟩ = some u1 ∧ (set3 w b p u0 u1 u2).cell? ⟨b, p + 2, none⟩ = some u2 ∧ (∀ q, q < p → (set3 w b p u0 u1 u2).cell? ⟨b, q, none⟩ = w.cell? ⟨b, q, none⟩) ∧ Room (set3 w b p u0 u1 u2) b 0 n ∧ w.grownBy (set3 w b p u0 u1 u2) (some b) ∧ b < w.heap.size := by
  have hr : ∀ j, j < n → (w.cell? ⟨b, j, none⟩).isSome = true := fun j hj => by have := (h j hj).1; rwa [Nat.zero_add] at this
  obtain ⟨x, hx⟩ := Option.isSome_iff_exists.1 (hr p (by omega))
  unfold set3
  refine ⟨?_, ?_, ?_, fun q hq => ?_, ((h.set _ _ _).set _ _ _).set _ _ _, grown_set (grown_set (gr_set _ _ _ _) _) _, World.block_lt_of_cell? w _ hx⟩
  · rw [cell_off _ _ _ _ _ (by omega), cell_off _ _ _ _ _ (by omega), cell_in _ _ _ _ (hr p (by omega))]
  · rw [cell_off _ _ _ _ _ (by omega), cell_in _ _ _ _ (by rw [cell_off _ _ _ _ _ (by omega)]; exact hr (p + 1) (by omega))]
  · rw [cell_in _ _ _ _ (by rw [cell_off _ _ _ _ _ (by omega), cell_off _ _ _ _ _ (by omega)]; exact hr (p + 2) (by omega))]
  · rw [cell_off _ _ _ _ _ (by omega), cell_off _ _ _ _ _ (by omega), cell_off _ _ _ _ _ (by omega)]
def set2 (w : World) (b p : Nat) (u0 u1 : Value) : World := (w.setCell ⟨b, p, none⟩ u0).setCell ⟨b, p + 1, none⟩ u1
theorem set2_facts {w : World} {b n p : Nat} (u0 u1 : Value) (h : Room w b 0 n) (hp : p + 1 < n) :
    (set2 w b p u0 u1).cell? ⟨b, p, none⟩ = some u0 ∧ (set2 w b p u0 u1).cell? ⟨b, p + 1, none⟩ = some u1 ∧ (∀ q, q < p → (set2 w b p u0 u1).cell? ⟨b, q, none⟩ = w.cell? ⟨b, q, none⟩) ∧ Room (set2 w b p u0 u1) b 0 n ∧ w.grownBy (set2 w b p u0 u1) (some b) := by
  have hr : ∀ j, j < n → (w.cell? ⟨b, j, none⟩).isSome = true := fun j hj => by have := (h j hj).1; rwa [Nat.zero_add] at this
  unfold set2
  refine ⟨?_, ?_, fun q hq => ?_, (h.set _ _ _).set _ _ _, grown_set (gr_set _ _ _ _) _⟩
  · rw [cell_off _ _ _ _ _ (by omega), cell_in _ _ _ _ (hr p (by omega))]
  · rw [cell_in _ _ _ _ (by rw [cell_off _ _ _ _ _ (by omega)]; exact hr (p + 1) (by omega))]
  · rw [cell_off _ _ _ _ _ (by omega), cell_off _ _ _ _ _ (by omega)]
theorem YAt.marked {wr w1 w2 w3 : World} {b j n : Nat} {l : List Vt} {v : Vt} (h : YAt wr b 0 l) (hl : l.length = j) (h1 : w1 = set3 wr b (j * 5) (.int .i64 v.h) (.int .i64 v.r) (.int .i64 v.s)) (h2 : Below w1.heap.size w1 w2) (h3 : w3 = set2 w2 b (j * 5 + 3) (.string v.i) (.int .i64 v.v)) (hr : Room wr b 0 n) (hn : j * 5 + 4 < n) :
    YAt w3 b 0 (l ++ [v]) ∧ Room w3 b 0 n ∧ wr.grownBy w3 (some b) := by
  obtain ⟨a0, a1, a2, a3, a4, a5, a6⟩ := set3_facts (.int .i64 v.h) (.int .i64 v.r) (.int .i64 v.s) hr (show j * 5 + 2 < n by omega)
  rw [← h1] at a0 a1 a2 a3 a4 a5
  have hb1 : b < w1.heap.size := by have := a5.size; omega
  obtain ⟨b0, b1, b2, b3, b4⟩ := set2_facts (.string v.i) (.int .i64 v.v) (a4.below h2) (show j * 5 + 3 + 1 < n by omega)
  rw [← h3] at b0 b1 b2 b3 b4
  have keep : ∀ q, q < j * 5 + 3 → w3.cell? ⟨b, q, none⟩ = w1.cell? ⟨b, q, none⟩ := fun q hq => (b2 q hq).trans (h2.cell (p := ⟨b, q, none⟩) hb1)
  refine ⟨?_, b3, grown_trans (gr_bel a5 h2) b4⟩
  refine YAt.snoc_of (h.of fun p hp => ?_) ?_
  · rw [Nat.zero_add, keep p (by omega), a3 p (by omega)]
  · intro c hc
    rw [hl, Nat.zero_add]
    match c, hc with
    | 0, _ => rw [Nat.add_zero, keep _ (by omega), a0]; rfl
    | 1, _ => rw [keep _ (by omega), a1]; rfl
    | 2, _ => rw [keep _ (by omega), a2]; rfl
    | 3, _ => rw [b0]; rfl
    | 4, _ => exact b1
end Go.Proofs.Ytmjlpdmdpagggaa
