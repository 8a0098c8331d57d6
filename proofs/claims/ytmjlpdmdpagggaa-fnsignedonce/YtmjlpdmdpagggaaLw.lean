/- What the laws' helpers answer at guards, votes, rows of votes: sizes, copies, likeness. Conditions: texts and rows that a machine can hold. -/
import Derived.Test.YtmjlpdmdpagggaaYw
import Derived.Test.YtmjlpdmdpagggaaVz
import Derived.Deep.CutBlock
import Derived.Deep.DeepCutAuto
namespace Go.Proofs.Ytmjlpdmdpagggaa
open Go.RowKit
open Num
set_option linter.unusedVariables false
def SzV (y : Vt) : Prop := y.i.size ≤ 9223372036854775807
def SmV (y : Vt) : Prop := y.i.size ≤ 1048576
theorem SmV.sz {y : Vt} (h : SmV y) : SzV y := by unfold SmV at h; unfold SzV; omega
set_option maxHeartbeats 800000 in
set_option maxRecDepth 100000 in
theorem sz_vt (x : Vt) (left : Int) (w : World) (hx : SzV x) (h0 : 0 ≤ left) (h1 : left ≤ 1048576) :
    Calls Try.prog 31 #[tV x, .int .i64 left] w fun e w' => ∃ q : Int, e = .returned (.int .i64 q) ∧ -1 ≤ q ∧ q ≤ left ∧ Hid (0 ≤ q → SmV x) ∧ Below w.heap.size w w' := by
  unfold SzV at hx
  unfold SmV
  obtain ⟨h, r, s, i, v⟩ := x
  unfold tV
  simp only at *
  by_cases hc : left - (i.size : Int) < 0
  · go_enter Try.func31, Try.ntmps31
    go_wp2
    go_ret
    exact ⟨_, rfl, by omega, by omega, fun h => absurd h (by decide), below_one _ _⟩
  · have HI : Hid (i.size ≤ 1048576) := by show i.size ≤ 1048576; omega
    go_enter Try.func31, Try.ntmps31
    go_wp2
    go_ret
    exact ⟨_, rfl, by omega, by omega, fun _ => HI.out, below_one _ _⟩
set_option maxHeartbeats 800000 in
set_option maxRecDepth 100000 in
theorem sz_gd (x : Gt) (left : Int) (w : World) (hx : x.i.size ≤ 9223372036854775807) (h0 : 0 ≤ left) (h1 : left ≤ 1048576) :
    Calls Try.prog 23 #[gV x, .int .i64 left] w fun e w' => ∃ q : Int, e = .returned (.int .i64 q) ∧ -1 ≤ q ∧ q ≤ left ∧ Hid (0 ≤ q → x.i.size ≤ 1048576) ∧ Below w.heap.size w w' := by
  obtain ⟨h, r, s, i⟩ := x
  unfold gV
  simp only at *
  by_cases hc : left - (i.size : Int) < 0
  · go_enter Try.func23, Try.ntmps23
    go_wp2
    go_ret
    exact ⟨_, rfl, by omega, by omega, fun h => absurd h (by decide), below_one _ _⟩
  · have HI : Hid (i.size ≤ 1048576) := by show i.size ≤ 1048576; omega
    go_enter Try.func23, Try.ntmps23
    go_wp2
    go_ret
    exact ⟨_, rfl, by omega, by omega, fun _ => HI.out, below_one _ _⟩
set_option maxHeartbeats 800000 in
set_option maxRecDepth 100000 in
theorem to_gd (x : Gt) (w : World) :
    Calls Try.prog 25 #[gV x] w fun e w' => e = .returned (gV x) ∧ Below w.heap.size w w' := by
  obtain ⟨h, r, s, i⟩ := x
  unfold gV
  simp only
  go_enter Try.func25, Try.ntmps25
  go_wp2
  refine bodyPost_ret (v := .agg #[.int .i64 h, .int .i64 r, .int .i64 s, .string i]) (by simp [results, Try.results25, go_sem]) rfl ⟨rfl, ?_⟩
  exact (((Below.refl _ _).alloc (Nat.le_refl _) _).alloc (by simp) _).alloc (by simp; omega) _
set_option maxHeartbeats 800000 in
set_option maxRecDepth 100000 in
theorem eq_vt (x : Vt) (w : World) :
    Calls Try.prog 78 #[tV x, tV x] w fun e w' => e = .returned (.bool true) ∧ Below w.heap.size w w' := by
  obtain ⟨h, r, s, i, v⟩ := x
  unfold tV
  simp only
  have hbq : (i.toList == i.toList) = true := by simp
  go_enter Try.func78, Try.ntmps78
  go_wp2
  go_ret
  exact ⟨rfl, below_two _ _ _⟩
set_option maxHeartbeats 800000 in
set_option maxRecDepth 100000 in
theorem eq_gd (x : Gt) (w : World) :
    Calls Try.prog 60 #[gV x, gV x] w fun e w' => e = .returned (.bool true) ∧ Below w.heap.size w w' := by
  obtain ⟨h, r, s, i⟩ := x
  unfold gV
  simp only
  have hbq : (i.toList == i.toList) = true := by simp
  go_enter Try.func60, Try.ntmps60
  go_wp2
  go_ret
  exact ⟨rfl, below_two _ _ _⟩
set_option maxHeartbeats 1600000 in
set_option maxRecDepth 100000 in
theorem szs_y (a : Option Addr) (l : List Vt) (cap : Nat) (left : Int) (w : World) (hl : YO w a l) (hlen : l.length ≤ 9223372036854775807) (hs : ∀ y ∈ l, SzV y) (h0 : 0 ≤ left) (h1 : left ≤ 1048576) :
    Calls Try.prog 55 #[.slice a l.length cap, .int .i64 left] w fun e w' => ∃ q : Int, e = .returned (.int .i64 q) ∧ Hid (0 ≤ q → l.length ≤ 1048576 ∧ ∀ y ∈ l, SmV y) ∧ Below w.heap.size w w' := by
  have HL : Hid (YO w a l) := hl
  have HS : Hid (∀ y ∈ l, SzV y) := hs
  clear hl hs
  by_cases hn : left - (l.length : Int) < 0
  · go_enter Try.func55, Try.ntmps55
    go_wp2
    go_ret
    exact ⟨_, rfl, fun h => absurd h (by decide), Below.refl _ _⟩
  have hl20 : l.length ≤ 1048576 := by omega
  have HL20 : Hid (l.length ≤ 1048576) := hl20
  go_enter Try.func55, Try.ntmps55
  go_wp2
  go_loopw [5, 1] (fun iv sv wr => ∃ (k : Nat) (r : Int), k ≤ l.length ∧ iv = .int .i64 k ∧ sv = .int .i64 r ∧ 0 ≤ r ∧ r ≤ left ∧ Hid (∀ j (hj : j < l.length), j < k → SmV l[j]) ∧ Below w.heap.size w wr) (fun iv _ _ => l.length - (intOf iv).toNat)
  case atStart => exact ⟨0, _, Nat.zero_le _, rfl, rfl, by omega, by omega, (fun j hj h => absurd h (by omega)), Below.refl _ _⟩
  case round =>
    obtain ⟨k, r, hk, rfl, rfl, hr0, hr1, HA, hb⟩ := hrel
    by_cases hlt : k < l.length
    · have hltz : (k : Int) < (l.length : Int) := by omega
      rcases HL.out with hz | ⟨b, o, rfl, hS⟩
      · omega
      have hc := (hS.below hb (hS.lt (by omega))).five k hlt
      have hx := HS.out _ (List.getElem_mem hlt)
      have kZ := fun W => sz_vt l[k] r W hx hr0 (by omega)
      have HN : Hid (SmV l[k] → ∀ j (hj : j < l.length), j < k + 1 → SmV l[j]) := fun e j hj h => by
        by_cases e1 : j = k
        · subst e1; exact e
        · exact HA.out j hj (by omega)
      clear hS hx
      generalize SmV l[k] = P at *
      generalize l[k] = y at *
      obtain ⟨h, r', s, i, v⟩ := y
      unfold tV at kZ
      simp only at kZ hc
      obtain ⟨c0, c1, c2, c3, c4⟩ := hc
      go_wp2_with fail
      refine (kZ _).mono ?_
      rintro e w2 ⟨q, rfl, hq1, hq2, HQ, b2⟩
      have hb3 := hb.trans (b2.mono hb.size)
      clear c0 c1 c2 c3 c4 kZ
      by_cases hq : q < 0
      · go_wp2
        go_ret
        exact ⟨_, rfl, fun h => absurd h (by omega), hb3⟩
      · have HN2 : Hid (∀ j (hj : j < l.length), j < k + 1 → SmV l[j]) := HN.out (HQ.out (by omega))
        clear HN HQ
        go_wp2
        go_roundw
        case rel => exact ⟨k + 1, q, by omega, by go_num, rfl, by omega, by omega, HN2, hb3⟩
        case measure => simp [intOf]; omega
    · have hltz : ¬ (k : Int) < (l.length : Int) := by omega
      have HF : Hid (l.length ≤ 1048576 ∧ ∀ y ∈ l, SmV y) := ⟨HL20.out, fun y hy => by obtain ⟨j, hj, rfl⟩ := List.getElem_of_mem hy; exact HA.out j hj (by omega)⟩
      clear HA
      go_wp2
      go_ret
      first | exact ⟨_, rfl, fun _ => HF.out, hb⟩ | exact ⟨_, rfl, fun _ => HF.out.2, hb⟩
theorem YAt.snoc {w : World} {b o : Nat} {l : List Vt} {v : Vt} (h : YAt w b o l) (hs : ∀ c, c < 5 → (w.cell? ⟨b, o + l.length * 5 + c, none⟩).isSome = true) :
    YAt (((((w.setCell ⟨b, o + l.length * 5, none⟩ (.int .i64 v.h)).setCell ⟨b, o + l.length * 5 + 1, none⟩ (.int .i64 v.r)).setCell ⟨b, o + l.length * 5 + 2, none⟩ (.int .i64 v.s)).setCell ⟨b, o + l.length * 5 + 3, none⟩ (.string v.i)).setCell ⟨b, o + l.length * 5 + 4, none⟩ (.int .i64 v.v)) b o (l ++ [v]) := by
  refine YAt.snoc_of (h.of fun p hp => ?_) ?_
  · rw [cell_off _ _ _ _ _ (by omega), cell_off _ _ _ _ _ (by omega), cell_off _ _ _ _ _ (by omega), cell_off _ _ _ _ _ (by omega), cell_off _ _ _ _ _ (by omega)]
  · intro c hc
    match c, hc with
    | 0, _ => show World.cell? _ ⟨b, o + l.length * 5, none⟩ = _; rw [cell_off _ _ _ _ _ (by omega), cell_off _ _ _ _ _ (by omega), cell_off _ _ _ _ _ (by omega), cell_off _ _ _ _ _ (by omega), cell_in w b (o + l.length * 5) _ (show (w.cell? ⟨b, o + l.length * 5, none⟩).isSome = true from hs 0 (by omega))]; rfl
    | 1, _ => rw [cell_off _ _ _ _ _ (by omega), cell_off _ _ _ _ _ (by omega), cell_off _ _ _ _ _ (by omega), cell_in _ _ _ _ (by rw [cell_off _ _ _ _ _ (by omega)]; exact hs 1 (by omega))]; rfl
    | 2, _ => rw [cell_off _ _ _ _ _ (by omega), cell_off _ _ _ _ _ (by omega), cell_in _ _ _ _ (by rw [cell_off _ _ _ _ _ (by omega), cell_off _ _ _ _ _ (by omega)]; exact hs 2 (by omega))]; rfl
    | 3, _ => rw [cell_off _ _ _ _ _ (by omega), cell_in _ _ _ _ (by rw [cell_off _ _ _ _ _ (by omega), cell_off _ _ _ _ _ (by omega), cell_off _ _ _ _ _ (by omega)]; exact hs 3 (by omega))]; rfl
    | 4, _ => rw [cell_in _ _ _ _ (by rw [cell_off _ _ _ _ _ (by omega), cell_off _ _ _ _ _ (by omega), cell_off _ _ _ _ _ (by omega), cell_off _ _ _ _ _ (by omega)]; exact hs 4 (by omega))]; rfl
set_option maxHeartbeats 3200000 in
set_option maxRecDepth 100000 in
theorem tos_y (a : Option Addr) (l : List Vt) (cap : Nat) (w : World) (hl : YO w a l) (hlen : l.length ≤ 1048576) :
    Calls Try.prog 56 #[.slice a l.length cap] w fun e w' => e = .returned (.slice (some ⟨w.heap.size, 0, none⟩) l.length l.length) ∧ YAt w' w.heap.size 0 l ∧ Room w' w.heap.size 0 (l.length * 5) ∧ Below w.heap.size w w' ∧ w.heap.size < w'.heap.size := by
  obtain ⟨i0, hi, hz0, hz1, hz2⟩ := infoYf
  have HL : Hid (YO w a l) := hl
  clear hl
  go_enter Try.func56, Try.ntmps56
  go_wp2_with (at_make; refine wpList_make_full _ rfl _ _ 27 rfl w.heap.size 31 i0 (.agg #[.int .i64 0, .int .i64 0, .int .i64 0, .string ⟨#[]⟩, .int .i64 0]) 5 Try.underlying27 hi hz0 hz1 _ _ _ _ l.length rfl rfl rfl rfl (by rw [hz2]; omega) (by unfold maxLen; omega) (Nat.le_refl _) ?_; intro w1 hown hgr)
  have hroom : Room w1 w.heap.size 0 (l.length * 5) := fun j hj => by
    rw [Nat.zero_add]
    refine ⟨?_, hown.frozenAt j⟩
    rw [hown.cellAt j (by omega)]
    simp [madeCells]
    exact hj
  have hb1 := below_of_grown hgr
  have hs1 : w.heap.size < w1.heap.size := by
    rcases hown.2 with ⟨h', _⟩ | ⟨g', cap', cur, h', hb, hg, _⟩
    · simp at h'
    · simp only [Value.slice.injEq, Option.some.injEq, Addr.mk.injEq, and_true, true_and] at h'
      rw [← h'.1] at hg
      exact (Array.getElem?_eq_some_iff.1 hg).1
  clear hown hgr
  go_loopw [4] (fun iv wr => ∃ k : Nat, k ≤ l.length ∧ iv = .int .i64 k ∧ Hid (YAt wr w.heap.size 0 (l.take k)) ∧ Hid (Room wr w.heap.size 0 (l.length * 5)) ∧ Hid (Below w.heap.size w wr) ∧ w.heap.size < wr.heap.size) (fun iv _ => l.length - (intOf iv).toNat)
  case atStart => exact ⟨0, Nat.zero_le _, rfl, fun j hj => by simp at hj, hroom, hb1, hs1⟩
  case round =>
    clear hroom hb1 hs1 w1
    obtain ⟨k, hk, rfl, HA, HR, HB, hsz⟩ := hrel
    by_cases hlt : k < l.length
    · have hltz : (k : Int) < (l.length : Int) := by omega
      rcases HL.out with h0 | ⟨b, o, rfl, hv0⟩
      · omega
      have hc := (hv0.below HB.out (hv0.lt (by omega))).five k hlt
      have HT : Hid (l.take (k + 1) = l.take k ++ [l[k]]) := List.take_succ_eq_append_getElem hlt
      have hlk : (l.take k).length = k := by rw [List.length_take]; omega
      have kT := fun W => to_vote l[k] W
      clear hv0
      generalize l[k] = y at *
      generalize l.take k = X at *
      obtain ⟨h, r, s, i, v⟩ := y
      unfold tV at kT
      simp only at kT hc
      obtain ⟨c0, c1, c2, c3, c4⟩ := hc
      go_wp2_with fail
      refine (kT _).mono ?_
      rintro e w2 ⟨rfl, b2⟩
      have HR2 : Hid (Room w2 w.heap.size 0 (l.length * 5)) := HR.out.below b2
      have HA2 : Hid (YAt w2 w.heap.size 0 X) := HA.out.below b2 hsz
      have hsz2 : w.heap.size < w2.heap.size := by have := b2.size; omega
      have HB2 : Hid (Below w.heap.size w w2) := HB.out.trans (b2.mono HB.out.size)
      clear c0 c1 c2 c3 c4 HR HA HB b2 kT
      obtain ⟨s0, f0⟩ := HR2.out (k * 5) (by omega)
      obtain ⟨u0, e0⟩ := Option.isSome_iff_exists.1 s0
      obtain ⟨s1, f1⟩ := HR2.out (k * 5 + 1) (by omega)
      obtain ⟨u1, e1⟩ := Option.isSome_iff_exists.1 s1
      obtain ⟨s2, f2⟩ := HR2.out (k * 5 + 2) (by omega)
      obtain ⟨u2, e2⟩ := Option.isSome_iff_exists.1 s2
      obtain ⟨s3, f3⟩ := HR2.out (k * 5 + 3) (by omega)
      obtain ⟨u3, e3⟩ := Option.isSome_iff_exists.1 s3
      obtain ⟨s4, f4⟩ := HR2.out (k * 5 + 4) (by omega)
      obtain ⟨u4, e4⟩ := Option.isSome_iff_exists.1 s4
      rw [Nat.zero_add] at e0 f0 e1 f1 e2 f2 e3 f3 e4 f4
      clear s0 s1 s2 s3 s4
      have hq1 : (w2.setCell ⟨w.heap.size, k * 5, none⟩ (.int .i64 h)).cell? ⟨w.heap.size, k * 5 + 1, none⟩ = some u1 := by rw [cell_off _ _ _ _ _ (by omega), e1]
      have hq2 : ((w2.setCell ⟨w.heap.size, k * 5, none⟩ (.int .i64 h)).setCell ⟨w.heap.size, k * 5 + 1, none⟩ (.int .i64 r)).cell? ⟨w.heap.size, k * 5 + 2, none⟩ = some u2 := by rw [cell_off _ _ _ _ _ (by omega), cell_off _ _ _ _ _ (by omega), e2]
      have hq3 : (((w2.setCell ⟨w.heap.size, k * 5, none⟩ (.int .i64 h)).setCell ⟨w.heap.size, k * 5 + 1, none⟩ (.int .i64 r)).setCell ⟨w.heap.size, k * 5 + 2, none⟩ (.int .i64 s)).cell? ⟨w.heap.size, k * 5 + 3, none⟩ = some u3 := by rw [cell_off _ _ _ _ _ (by omega), cell_off _ _ _ _ _ (by omega), cell_off _ _ _ _ _ (by omega), e3]
      have hq4 : ((((w2.setCell ⟨w.heap.size, k * 5, none⟩ (.int .i64 h)).setCell ⟨w.heap.size, k * 5 + 1, none⟩ (.int .i64 r)).setCell ⟨w.heap.size, k * 5 + 2, none⟩ (.int .i64 s)).setCell ⟨w.heap.size, k * 5 + 3, none⟩ (.string i)).cell? ⟨w.heap.size, k * 5 + 4, none⟩ = some u4 := by rw [cell_off _ _ _ _ _ (by omega), cell_off _ _ _ _ _ (by omega), cell_off _ _ _ _ _ (by omega), cell_off _ _ _ _ _ (by omega), e4]
      have HN := HA2.out.snoc (v := ⟨h, r, s, i, v⟩) (fun c hc => by rw [hlk]; have := (HR2.out (k * 5 + c) (by omega)).1; rw [Nat.add_assoc]; exact this)
      rw [hlk, ← HT.out] at HN
      have HRn := (((((HR2.out.set w.heap.size (k * 5) (.int .i64 h)).set w.heap.size (k * 5 + 1) (.int .i64 r)).set w.heap.size (k * 5 + 2) (.int .i64 s)).set w.heap.size (k * 5 + 3) (.string i)).set w.heap.size (k * 5 + 4) (.int .i64 v))
      have HBn := (((((HB2.out.setCell (p := ⟨w.heap.size, k * 5, none⟩) (Nat.le_refl _) (.int .i64 h)).setCell (p := ⟨w.heap.size, k * 5 + 1, none⟩) (Nat.le_refl _) (.int .i64 r)).setCell (p := ⟨w.heap.size, k * 5 + 2, none⟩) (Nat.le_refl _) (.int .i64 s)).setCell (p := ⟨w.heap.size, k * 5 + 3, none⟩) (Nat.le_refl _) (.string i)).setCell (p := ⟨w.heap.size, k * 5 + 4, none⟩) (Nat.le_refl _) (.int .i64 v))
      go_wp2
      go_roundw
      case rel =>
        have e0 : ∀ (W : World) q j u, (W.setCell ⟨q, j, none⟩ u).heap.size = W.heap.size := fun W q j u => by simp
        refine ⟨k + 1, by omega, by go_num, ?_, HRn, HBn, ?_⟩
        · show YAt _ _ _ _
          simp only [Nat.zero_add] at HN
          exact HN
        · simp only [e0]; exact hsz2
      case measure => simp [intOf]; omega
    · have hltz : ¬ (k : Int) < (l.length : Int) := by omega
      have hkl : k = l.length := by omega
      have HA' : Hid (YAt wr w.heap.size 0 l) := by have := HA.out; rw [hkl, List.take_length] at this; exact this
      clear hkl
      go_wp2
      go_ret
      exact ⟨rfl, HA'.out, HR.out, HB.out, hsz⟩
/-- A copy of a row, in a block of its own from B on; it may be written. -/
def Yop (w : World) (B : Nat) (l : List Vt) (a : Option Addr) : Prop := ∃ b, a = some ⟨b, 0, none⟩ ∧ B ≤ b ∧ b < w.heap.size ∧ YAt w b 0 l ∧ Room w b 0 (l.length * 5)
theorem Yop.o {w : World} {B : Nat} {l : List Vt} {a : Option Addr} (h : Yop w B l a) : YO w a l := by
  obtain ⟨b, rfl, _, _, h1, _⟩ := h; exact .inr ⟨b, 0, rfl, h1⟩
theorem Yop.below {w w' : World} {B : Nat} {l : List Vt} {a : Option Addr} (h : Yop w B l a) (hb : Below w.heap.size w w') : Yop w' B l a := by
  obtain ⟨b, rfl, h0, h1, h2, h3⟩ := h
  exact ⟨b, rfl, h0, by have := hb.size; omega, h2.below hb h1, h3.below hb⟩
theorem to_row (a : Option Addr) (l : List Vt) (cap : Nat) (w : World) (hl : YO w a l) (hlen : l.length ≤ 1048576) :
    Calls Try.prog 56 #[.slice a l.length cap] w fun e w' => ∃ u, e = .returned (.slice u l.length l.length) ∧ Hid (Yop w' w.heap.size l u) ∧ Below w.heap.size w w' := by
  refine (tos_y a l cap w hl hlen).mono ?_
  rintro e w' ⟨rfl, h1, h2, h3, h4⟩
  exact ⟨_, rfl, ⟨_, rfl, Nat.le_refl _, h4, h1, h2⟩, h3⟩
set_option maxHeartbeats 1600000 in
set_option maxRecDepth 100000 in
theorem eqs_y (a a' : Option Addr) (l : List Vt) (cap cap' : Nat) (w : World) (hl : YO w a l) (hl' : YO w a' l) (h1 : l.length ≤ 1099511627776) :
    Calls Try.prog 61 #[.slice a l.length cap, .slice a' l.length cap'] w fun e w' => e = .returned (.bool true) ∧ Below w.heap.size w w' := by
  have HL : Hid (YO w a l) := hl
  have HL' : Hid (YO w a' l) := hl'
  clear hl hl'
  go_enter Try.func61, Try.ntmps61
  go_wp2
  go_loopw [5] (fun iv wr => ∃ k : Nat, k ≤ l.length ∧ iv = .int .i64 k ∧ Below w.heap.size w wr) (fun iv _ => l.length - (intOf iv).toNat)
  case atStart => exact ⟨0, Nat.zero_le _, rfl, Below.refl _ _⟩
  case round =>
    obtain ⟨k, hk, rfl, hb⟩ := hrel
    by_cases hlt : k < l.length
    · have hltz : (k : Int) < (l.length : Int) := by omega
      rcases HL.out with h0 | ⟨b, o, rfl, hv0⟩
      · omega
      rcases HL'.out with h0 | ⟨b', o', rfl, hv0'⟩
      · omega
      have hn := bel_some wr
      have q := (hv0.below hb (hv0.lt (by omega))).five k hlt
      have q' := (hv0'.below hb (hv0'.lt (by omega))).five k hlt
      have kE := fun W => eq_vt l[k] W
      generalize l[k] = y at *
      obtain ⟨h, r, s, i, v⟩ := y
      unfold tV at kE
      simp only at kE q q'
      obtain ⟨d0, d1, d2, d3, d4⟩ := q
      obtain ⟨e0, e1, e2, e3, e4⟩ := q'
      have c0 := fun p : Bel wr => p.cell d0
      have f0 := fun p : Bel wr => p.cell e0
      have c1 := fun p : Bel wr => p.cell d1
      have f1 := fun p : Bel wr => p.cell e1
      have c2 := fun p : Bel wr => p.cell d2
      have f2 := fun p : Bel wr => p.cell e2
      have c3 := fun p : Bel wr => p.cell d3
      have f3 := fun p : Bel wr => p.cell e3
      have c4 := fun p : Bel wr => p.cell d4
      have f4 := fun p : Bel wr => p.cell e4
      clear hv0 hv0' d0 d1 d2 d3 d4 e0 e1 e2 e3 e4
      go_wp2_with fail
      refine wp_region_below (by kernel_rfl) (by kernel_rfl) ?_
      repeat (go_big_quiet_step ((go_at_call 78; exact bel_of (kE _))))
      refine wpQuiet_nil ?_
      intro _ hw'
      obtain ⟨pq, hw''⟩ := hw'
      subst hw''
      have hb3 := hb.trans (pq.h.mono hb.size)
      clear c0 c1 c2 c3 c4 f0 f1 f2 f3 f4
      go_wp2
      go_roundw
      case rel => exact ⟨k + 1, by omega, by go_num, hb3⟩
      case measure => simp [intOf]; omega
    · have hltz : ¬ (k : Int) < (l.length : Int) := by omega
      go_wp2
      go_ret
      exact ⟨rfl, hb⟩
end Go.Proofs.Ytmjlpdmdpagggaa
