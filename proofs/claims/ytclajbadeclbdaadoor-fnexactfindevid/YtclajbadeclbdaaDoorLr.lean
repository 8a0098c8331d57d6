/- What the laws' helpers szSVoteS, toSVoteS, eqSVoteS and markSVoteS answer. Conditions: rows of at most 2 to the 20 votes. -/
import Derived.Test.YtclajbadeclbdaaDoorLy
namespace Go.Proofs.YtclajbadeclbdaaDoor
open Go.RowKit
open Num
set_option linter.unusedVariables false
set_option maxHeartbeats 1600000 in
set_option maxRecDepth 100000 in
theorem szs_y (a : Option Addr) (l : List Sv) (cap : Nat) (left : Int) (w : World) (hl : YO w a l) (hlen : l.length ≤ 9223372036854775807) (hs : ∀ y ∈ l, SzY y) (h0 : 0 ≤ left) (h1 : left ≤ 1048576) :
    Calls Tryd.prog 22 #[.slice a l.length cap, .int .i64 left] w fun e w' => ∃ q : Int, e = .returned (.int .i64 q) ∧ Hid (0 ≤ q → l.length ≤ 1048576 ∧ ∀ y ∈ l, SmY y) ∧ Below w.heap.size w w' := by
  have HL : Hid (YO w a l) := hl
  have HS : Hid (∀ y ∈ l, SzY y) := hs
  clear hl hs
  by_cases hn : left - (l.length : Int) < 0
  · go_enter Tryd.func22, Tryd.ntmps22
    go_wp2
    go_ret
    exact ⟨_, rfl, fun h => absurd h (by decide), Below.refl _ _⟩
  have hl20 : l.length ≤ 1048576 := by omega
  have HL20 : Hid (l.length ≤ 1048576) := hl20
  go_enter Tryd.func22, Tryd.ntmps22
  go_wp2
  go_loopw [5, 1] (fun iv sv wr => ∃ (k : Nat) (r : Int), k ≤ l.length ∧ iv = .int .i64 k ∧ sv = .int .i64 r ∧ 0 ≤ r ∧ r ≤ left ∧ Hid (∀ j (hj : j < l.length), j < k → SmY l[j]) ∧ Below w.heap.size w wr) (fun iv _ _ => l.length - (intOf iv).toNat)
  case atStart => exact ⟨0, _, Nat.zero_le _, rfl, rfl, by omega, by omega, (fun j hj h => absurd h (by omega)), Below.refl _ _⟩
  case round =>
    obtain ⟨k, r, hk, rfl, rfl, hr0, hr1, HA, hb⟩ := hrel
    by_cases hlt : k < l.length
    · have hltz : (k : Int) < (l.length : Int) := by omega
      rcases HL.out with hz | ⟨b, o, rfl, hS⟩
      · omega
      have hc := (hS.below hb (hS.lt (by omega))).six k hlt
      have hx := HS.out _ (List.getElem_mem hlt)
      have kZ := fun W => sz_sv l[k] r W hx hr0 (by omega)
      have HN : Hid (SmY l[k] → ∀ j (hj : j < l.length), j < k + 1 → SmY l[j]) := fun e j hj h => by
        by_cases e1 : j = k
        · subst e1; exact e
        · exact HA.out j hj (by omega)
      clear hS hx
      generalize SmY l[k] = P at *
      generalize l[k] = y at *
      obtain ⟨⟨h, r', s, i, v⟩, g⟩ := y
      unfold yV at kZ
      simp only at kZ hc
      obtain ⟨c0, c1, c2, c3, c4, c5⟩ := hc
      go_wp2_with fail
      refine (kZ _).mono ?_
      rintro e w2 ⟨q, rfl, hq1, hq2, HQ, b2⟩
      have hb3 := hb.trans (b2.mono hb.size)
      clear c0 c1 c2 c3 c4 c5 kZ
      by_cases hq : q < 0
      · go_wp2
        go_ret
        exact ⟨_, rfl, fun h => absurd h (by omega), hb3⟩
      · have HN2 : Hid (∀ j (hj : j < l.length), j < k + 1 → SmY l[j]) := HN.out (HQ.out (by omega))
        clear HN HQ
        go_wp2
        go_roundw
        case rel => exact ⟨k + 1, q, by omega, by go_num, rfl, by omega, by omega, HN2, hb3⟩
        case measure => simp [intOf]; omega
    · have hltz : ¬ (k : Int) < (l.length : Int) := by omega
      have HF : Hid (l.length ≤ 1048576 ∧ ∀ y ∈ l, SmY y) := ⟨HL20.out, fun y hy => by obtain ⟨j, hj, rfl⟩ := List.getElem_of_mem hy; exact HA.out j hj (by omega)⟩
      clear HA
      go_wp2
      go_ret
      first | exact ⟨_, rfl, fun _ => HF.out, hb⟩ | exact ⟨_, rfl, fun _ => HF.out.2, hb⟩
theorem YAt.snoc {w : World} {b o : Nat} {l : List Sv} {v : Sv} (h : YAt w b o l) (hs : ∀ c, c < 6 → (w.cell? ⟨b, o + l.length * 6 + c, none⟩).isSome = true) :
    YAt ((((((w.setCell ⟨b, o + l.length * 6, none⟩ (.int .i64 v.x.h)).setCell ⟨b, o + l.length * 6 + 1, none⟩ (.int .i64 v.x.r)).setCell ⟨b, o + l.length * 6 + 2, none⟩ (.int .i64 v.x.s)).setCell ⟨b, o + l.length * 6 + 3, none⟩ (.string v.x.i)).setCell ⟨b, o + l.length * 6 + 4, none⟩ (.int .i64 v.x.v)).setCell ⟨b, o + l.length * 6 + 5, none⟩ (.string v.s)) b o (l ++ [v]) := by
  obtain ⟨u0, e0⟩ := Option.isSome_iff_exists.1 (hs 0 (by omega))
  obtain ⟨u1, e1⟩ := Option.isSome_iff_exists.1 (hs 1 (by omega))
  obtain ⟨u2, e2⟩ := Option.isSome_iff_exists.1 (hs 2 (by omega))
  obtain ⟨u3, e3⟩ := Option.isSome_iff_exists.1 (hs 3 (by omega))
  obtain ⟨u4, e4⟩ := Option.isSome_iff_exists.1 (hs 4 (by omega))
  obtain ⟨u5, e5⟩ := Option.isSome_iff_exists.1 (hs 5 (by omega))
  intro j hj c hc
  have hne : ∀ (W : World) (p q : Nat) (u : Value), p ≠ q → (W.setCell ⟨b, p, none⟩ u).cell? ⟨b, q, none⟩ = W.cell? ⟨b, q, none⟩ := fun W p q u h => World.cell?_setCell_other _ _ _ _ (fun e => h (by injection e))
  by_cases hjl : j < l.length
  · rw [List.getElem_append_left hjl, hne _ _ _ _ (by omega), hne _ _ _ _ (by omega), hne _ _ _ _ (by omega), hne _ _ _ _ (by omega), hne _ _ _ _ (by omega), hne _ _ _ _ (by omega)]
    exact h j hjl c hc
  · have hjl2 : j = l.length := by simp at hj; omega
    subst hjl2
    have hv : (l ++ [v])[l.length] = v := by simp
    rw [hv]
    match c, hc with
    | 0, _ =>
      have h0 : w.cell? ⟨b, o + l.length * 6, none⟩ = some u0 := e0
      show World.cell? _ ⟨b, o + l.length * 6, none⟩ = _
      rw [hne _ _ _ _ (by omega), hne _ _ _ _ (by omega), hne _ _ _ _ (by omega), hne _ _ _ _ (by omega), hne _ _ _ _ (by omega), World.cell?_setCell_same _ _ _ h0]
      rfl
    | 1, _ =>
      have h0 : (w.setCell ⟨b, o + l.length * 6, none⟩ (.int .i64 v.x.h)).cell? ⟨b, o + l.length * 6 + 1, none⟩ = some u1 := by rw [hne _ _ _ _ (by omega)]; exact e1
      rw [hne _ _ _ _ (by omega), hne _ _ _ _ (by omega), hne _ _ _ _ (by omega), hne _ _ _ _ (by omega), World.cell?_setCell_same _ _ _ h0]
      rfl
    | 2, _ =>
      have h0 : ((w.setCell ⟨b, o + l.length * 6, none⟩ (.int .i64 v.x.h)).setCell ⟨b, o + l.length * 6 + 1, none⟩ (.int .i64 v.x.r)).cell? ⟨b, o + l.length * 6 + 2, none⟩ = some u2 := by rw [hne _ _ _ _ (by omega), hne _ _ _ _ (by omega)]; exact e2
      rw [hne _ _ _ _ (by omega), hne _ _ _ _ (by omega), hne _ _ _ _ (by omega), World.cell?_setCell_same _ _ _ h0]
      rfl
    | 3, _ =>
      have h0 : (((w.setCell ⟨b, o + l.length * 6, none⟩ (.int .i64 v.x.h)).setCell ⟨b, o + l.length * 6 + 1, none⟩ (.int .i64 v.x.r)).setCell ⟨b, o + l.length * 6 + 2, none⟩ (.int .i64 v.x.s)).cell? ⟨b, o + l.length * 6 + 3, none⟩ = some u3 := by rw [hne _ _ _ _ (by omega), hne _ _ _ _ (by omega), hne _ _ _ _ (by omega)]; exact e3
      rw [hne _ _ _ _ (by omega), hne _ _ _ _ (by omega), World.cell?_setCell_same _ _ _ h0]
      rfl
    | 4, _ =>
      have h0 : ((((w.setCell ⟨b, o + l.length * 6, none⟩ (.int .i64 v.x.h)).setCell ⟨b, o + l.length * 6 + 1, none⟩ (.int .i64 v.x.r)).setCell ⟨b, o + l.length * 6 + 2, none⟩ (.int .i64 v.x.s)).setCell ⟨b, o + l.length * 6 + 3, none⟩ (.string v.x.i)).cell? ⟨b, o + l.length * 6 + 4, none⟩ = some u4 := by rw [hne _ _ _ _ (by omega), hne _ _ _ _ (by omega), hne _ _ _ _ (by omega), hne _ _ _ _ (by omega)]; exact e4
      rw [hne _ _ _ _ (by omega), World.cell?_setCell_same _ _ _ h0]
      rfl
    | 5, _ =>
      have h0 : (((((w.setCell ⟨b, o + l.length * 6, none⟩ (.int .i64 v.x.h)).setCell ⟨b, o + l.length * 6 + 1, none⟩ (.int .i64 v.x.r)).setCell ⟨b, o + l.length * 6 + 2, none⟩ (.int .i64 v.x.s)).setCell ⟨b, o + l.length * 6 + 3, none⟩ (.string v.x.i)).setCell ⟨b, o + l.length * 6 + 4, none⟩ (.int .i64 v.x.v)).cell? ⟨b, o + l.length * 6 + 5, none⟩ = some u5 := by rw [hne _ _ _ _ (by omega), hne _ _ _ _ (by omega), hne _ _ _ _ (by omega), hne _ _ _ _ (by omega), hne _ _ _ _ (by omega)]; exact e5
      rw [World.cell?_setCell_same _ _ _ h0]
      rfl
theorem infoYf : ∃ i, Tryd.prog.info? 32 = some i ∧ i.zero = some (.agg #[.int .i64 0, .int .i64 0, .int .i64 0, .string ⟨#[]⟩, .int .i64 0, .string ⟨#[]⟩]) ∧ i.size = 6 ∧ i.bytes = 64 :=
  info_parts (by kernel_rfl)
theorem below_of_grownN {w w' : World} (h : w.grownBy w' none) : Below w.heap.size w w' := ⟨h.os, h.tape, h.output, h.size, fun k hk => h.block k hk (by simp)⟩
set_option maxHeartbeats 3200000 in
set_option maxRecDepth 100000 in
theorem tos_y (a : Option Addr) (l : List Sv) (cap : Nat) (w : World) (hl : YO w a l) (hlen : l.length ≤ 1048576) :
    Calls Tryd.prog 23 #[.slice a l.length cap] w fun e w' => e = .returned (.slice (some ⟨w.heap.size, 0, none⟩) l.length l.length) ∧ YAt w' w.heap.size 0 l ∧ Room w' w.heap.size 0 (l.length * 6) ∧ Below w.heap.size w w' ∧ w.heap.size < w'.heap.size := by
  obtain ⟨i0, hi, hz0, hz1, hz2⟩ := infoYf
  have HL : Hid (YO w a l) := hl
  clear hl
  go_enter Tryd.func23, Tryd.ntmps23
  go_wp2_with (at_make; refine wpList_make_full _ rfl _ _ 24 rfl w.heap.size 32 i0 (.agg #[.int .i64 0, .int .i64 0, .int .i64 0, .string ⟨#[]⟩, .int .i64 0, .string ⟨#[]⟩]) 6 Tryd.underlying24 hi hz0 hz1 _ _ _ _ l.length rfl rfl rfl rfl (by rw [hz2]; omega) (by unfold maxLen; omega) (Nat.le_refl _) ?_; intro w1 hown hgr)
  have hroom : Room w1 w.heap.size 0 (l.length * 6) := fun j hj => by
    rw [Nat.zero_add]
    refine ⟨?_, hown.frozenAt j⟩
    rw [hown.cellAt j (by omega)]
    simp [madeCells]
    exact hj
  have hb1 := below_of_grownN hgr
  have hs1 : w.heap.size < w1.heap.size := by
    rcases hown.2 with ⟨h', _⟩ | ⟨g', cap', cur, h', hb, hg, _⟩
    · simp at h'
    · simp only [Value.slice.injEq, Option.some.injEq, Addr.mk.injEq, and_true, true_and] at h'
      rw [← h'.1] at hg
      exact (Array.getElem?_eq_some_iff.1 hg).1
  clear hown hgr
  go_loopw [4] (fun iv wr => ∃ k : Nat, k ≤ l.length ∧ iv = .int .i64 k ∧ Hid (YAt wr w.heap.size 0 (l.take k)) ∧ Hid (Room wr w.heap.size 0 (l.length * 6)) ∧ Hid (Below w.heap.size w wr) ∧ w.heap.size < wr.heap.size) (fun iv _ => l.length - (intOf iv).toNat)
  case atStart => exact ⟨0, Nat.zero_le _, rfl, fun j hj => by simp at hj, hroom, hb1, hs1⟩
  case round =>
    clear hroom hb1 hs1 w1
    obtain ⟨k, hk, rfl, HA, HR, HB, hsz⟩ := hrel
    by_cases hlt : k < l.length
    · have hltz : (k : Int) < (l.length : Int) := by omega
      rcases HL.out with h0 | ⟨b, o, rfl, hv0⟩
      · omega
      have hc := (hv0.below HB.out (hv0.lt (by omega))).six k hlt
      have HT : Hid (l.take (k + 1) = l.take k ++ [l[k]]) := List.take_succ_eq_append_getElem hlt
      have hlk : (l.take k).length = k := by rw [List.length_take]; omega
      have kT := fun W => to_sv l[k] W
      clear hv0
      generalize l[k] = y at *
      generalize l.take k = X at *
      obtain ⟨⟨h, r, s, i, v⟩, g⟩ := y
      unfold yV at kT
      simp only at kT hc
      obtain ⟨c0, c1, c2, c3, c4, c5⟩ := hc
      go_wp2_with fail
      refine (kT _).mono ?_
      rintro e w2 ⟨rfl, b2⟩
      have HR2 : Hid (Room w2 w.heap.size 0 (l.length * 6)) := HR.out.below b2
      have HA2 : Hid (YAt w2 w.heap.size 0 X) := HA.out.below b2 hsz
      have hsz2 : w.heap.size < w2.heap.size := by have := b2.size; omega
      have HB2 : Hid (Below w.heap.size w w2) := HB.out.trans (b2.mono HB.out.size)
      clear c0 c1 c2 c3 c4 c5 HR HA HB b2 kT
      obtain ⟨s0, f0⟩ := HR2.out (k * 6) (by omega)
      obtain ⟨u0, e0⟩ := Option.isSome_iff_exists.1 s0
      obtain ⟨s1, f1⟩ := HR2.out (k * 6 + 1) (by omega)
      obtain ⟨u1, e1⟩ := Option.isSome_iff_exists.1 s1
      obtain ⟨s2, f2⟩ := HR2.out (k * 6 + 2) (by omega)
      obtain ⟨u2, e2⟩ := Option.isSome_iff_exists.1 s2
      obtain ⟨s3, f3⟩ := HR2.out (k * 6 + 3) (by omega)
      obtain ⟨u3, e3⟩ := Option.isSome_iff_exists.1 s3
      obtain ⟨s4, f4⟩ := HR2.out (k * 6 + 4) (by omega)
      obtain ⟨u4, e4⟩ := Option.isSome_iff_exists.1 s4
      obtain ⟨s5, f5⟩ := HR2.out (k * 6 + 5) (by omega)
      obtain ⟨u5, e5⟩ := Option.isSome_iff_exists.1 s5
      rw [Nat.zero_add] at e0 f0 e1 f1 e2 f2 e3 f3 e4 f4 e5 f5
      clear s0 s1 s2 s3 s4 s5
      have hq1 : (w2.setCell ⟨w.heap.size, k * 6, none⟩ (.int .i64 h)).cell? ⟨w.heap.size, k * 6 + 1, none⟩ = some u1 := by rw [cell_off _ _ _ _ _ (by omega), e1]
      have hq2 : ((w2.setCell ⟨w.heap.size, k * 6, none⟩ (.int .i64 h)).setCell ⟨w.heap.size, k * 6 + 1, none⟩ (.int .i64 r)).cell? ⟨w.heap.size, k * 6 + 2, none⟩ = some u2 := by rw [cell_off _ _ _ _ _ (by omega), cell_off _ _ _ _ _ (by omega), e2]
      have hq3 : (((w2.setCell ⟨w.heap.size, k * 6, none⟩ (.int .i64 h)).setCell ⟨w.heap.size, k * 6 + 1, none⟩ (.int .i64 r)).setCell ⟨w.heap.size, k * 6 + 2, none⟩ (.int .i64 s)).cell? ⟨w.heap.size, k * 6 + 3, none⟩ = some u3 := by rw [cell_off _ _ _ _ _ (by omega), cell_off _ _ _ _ _ (by omega), cell_off _ _ _ _ _ (by omega), e3]
      have hq4 : ((((w2.setCell ⟨w.heap.size, k * 6, none⟩ (.int .i64 h)).setCell ⟨w.heap.size, k * 6 + 1, none⟩ (.int .i64 r)).setCell ⟨w.heap.size, k * 6 + 2, none⟩ (.int .i64 s)).setCell ⟨w.heap.size, k * 6 + 3, none⟩ (.string i)).cell? ⟨w.heap.size, k * 6 + 4, none⟩ = some u4 := by rw [cell_off _ _ _ _ _ (by omega), cell_off _ _ _ _ _ (by omega), cell_off _ _ _ _ _ (by omega), cell_off _ _ _ _ _ (by omega), e4]
      have hq5 : (((((w2.setCell ⟨w.heap.size, k * 6, none⟩ (.int .i64 h)).setCell ⟨w.heap.size, k * 6 + 1, none⟩ (.int .i64 r)).setCell ⟨w.heap.size, k * 6 + 2, none⟩ (.int .i64 s)).setCell ⟨w.heap.size, k * 6 + 3, none⟩ (.string i)).setCell ⟨w.heap.size, k * 6 + 4, none⟩ (.int .i64 v)).cell? ⟨w.heap.size, k * 6 + 5, none⟩ = some u5 := by rw [cell_off _ _ _ _ _ (by omega), cell_off _ _ _ _ _ (by omega), cell_off _ _ _ _ _ (by omega), cell_off _ _ _ _ _ (by omega), cell_off _ _ _ _ _ (by omega), e5]
      have HN := HA2.out.snoc (v := ⟨⟨h, r, s, i, v⟩, g⟩) (fun c hc => by rw [hlk]; have := (HR2.out (k * 6 + c) (by omega)).1; rw [Nat.add_assoc]; exact this)
      rw [hlk, ← HT.out] at HN
      have HRn := ((((((HR2.out.set w.heap.size (k * 6) (.int .i64 h)).set w.heap.size (k * 6 + 1) (.int .i64 r)).set w.heap.size (k * 6 + 2) (.int .i64 s)).set w.heap.size (k * 6 + 3) (.string i)).set w.heap.size (k * 6 + 4) (.int .i64 v)).set w.heap.size (k * 6 + 5) (.string g))
      have HBn := ((((((HB2.out.setCell (p := ⟨w.heap.size, k * 6, none⟩) (Nat.le_refl _) (.int .i64 h)).setCell (p := ⟨w.heap.size, k * 6 + 1, none⟩) (Nat.le_refl _) (.int .i64 r)).setCell (p := ⟨w.heap.size, k * 6 + 2, none⟩) (Nat.le_refl _) (.int .i64 s)).setCell (p := ⟨w.heap.size, k * 6 + 3, none⟩) (Nat.le_refl _) (.string i)).setCell (p := ⟨w.heap.size, k * 6 + 4, none⟩) (Nat.le_refl _) (.int .i64 v)).setCell (p := ⟨w.heap.size, k * 6 + 5, none⟩) (Nat.le_refl _) (.string g))
      go_wp2
      go_roundw
      case rel =>
        have e0 : ∀ (W : World) q j u, (W.setCell ⟨q, j, none⟩ u).heap.size = W.heap.size := fun W q j u => by simp
        refine ⟨k + 1, by omega, by go_num, ?_, HRn, HBn, ?_⟩
        · show YAt _ _ _ _
          simp only [Nat.zero_add] at HN
          exact HN
        · simp only [e0]; exact hsz2
      case measure => simp [intOf]; omega
    · have hltz : ¬ (k : Int) < (l.length : Int) := by omega
      have hkl : k = l.length := by omega
      have HA' : Hid (YAt wr w.heap.size 0 l) := by have := HA.out; rw [hkl, List.take_length] at this; exact this
      clear hkl
      go_wp2
      go_ret
      exact ⟨rfl, HA'.out, HR.out, HB.out, hsz⟩
/-- A copy of a row, in a block of its own from B on; it may be written. -/
def Yop (w : World) (B : Nat) (l : List Sv) (a : Option Addr) : Prop := ∃ b, a = some ⟨b, 0, none⟩ ∧ B ≤ b ∧ b < w.heap.size ∧ YAt w b 0 l ∧ Room w b 0 (l.length * 6)
theorem Yop.o {w : World} {B : Nat} {l : List Sv} {a : Option Addr} (h : Yop w B l a) : YO w a l := by
  obtain ⟨b, rfl, _, _, h1, _⟩ := h; exact .inr ⟨b, 0, rfl, h1⟩
theorem Yop.below {w w' : World} {B : Nat} {l : List Sv} {a : Option Addr} (h : Yop w B l a) (hb : Below w.heap.size w w') : Yop w' B l a := by
  obtain ⟨b, rfl, h0, h1, h2, h3⟩ := h
  exact ⟨b, rfl, h0, by have := hb.size; omega, h2.below hb h1, h3.below hb⟩
theorem to_row (a : Option Addr) (l : List Sv) (cap : Nat) (w : World) (hl : YO w a l) (hlen : l.length ≤ 1048576) :
    Calls Tryd.prog 23 #[.slice a l.length cap] w fun e w' => ∃ u, e = .returned (.slice u l.length l.length) ∧ Hid (Yop w' w.heap.size l u) ∧ Below w.heap.size w w' := by
  refine (tos_y a l cap w hl hlen).mono ?_
  rintro e w' ⟨rfl, h1, h2, h3, h4⟩
  exact ⟨_, rfl, ⟨_, rfl, Nat.le_refl _, h4, h1, h2⟩, h3⟩
set_option maxHeartbeats 1600000 in
set_option maxRecDepth 100000 in
theorem eqs_y (a a' : Option Addr) (l : List Sv) (cap cap' : Nat) (w : World) (hl : YO w a l) (hl' : YO w a' l) (h1 : l.length ≤ 1099511627776) :
    Calls Tryd.prog 25 #[.slice a l.length cap, .slice a' l.length cap'] w fun e w' => e = .returned (.bool true) ∧ Below w.heap.size w w' := by
  have HL : Hid (YO w a l) := hl
  have HL' : Hid (YO w a' l) := hl'
  clear hl hl'
  go_enter Tryd.func25, Tryd.ntmps25
  go_wp2
  go_loopw [5] (fun iv wr => ∃ k : Nat, k ≤ l.length ∧ iv = .int .i64 k ∧ Below w.heap.size w wr) (fun iv _ => l.length - (intOf iv).toNat)
  case atStart => exact ⟨0, Nat.zero_le _, rfl, Below.refl _ _⟩
  case round =>
    obtain ⟨k, hk, rfl, hb⟩ := hrel
    by_cases hlt : k < l.length
    · have hltz : (k : Int) < (l.length : Int) := by omega
      rcases HL.out with h0 | ⟨b, o, rfl, hv0⟩
      · omega
      rcases HL'.out with h0 | ⟨b', o', rfl, hv0'⟩
      · omega
      have hn := bel_some wr
      have q := (hv0.below hb (hv0.lt (by omega))).six k hlt
      have q' := (hv0'.below hb (hv0'.lt (by omega))).six k hlt
      have kE := fun W => eq_sv l[k] W
      generalize l[k] = y at *
      obtain ⟨⟨h, r, s, i, v⟩, g⟩ := y
      unfold yV at kE
      simp only at kE q q'
      obtain ⟨d0, d1, d2, d3, d4, d5⟩ := q
      obtain ⟨e0, e1, e2, e3, e4, e5⟩ := q'
      have c0 := fun p : Bel wr => p.cell d0
      have f0 := fun p : Bel wr => p.cell e0
      have c1 := fun p : Bel wr => p.cell d1
      have f1 := fun p : Bel wr => p.cell e1
      have c2 := fun p : Bel wr => p.cell d2
      have f2 := fun p : Bel wr => p.cell e2
      have c3 := fun p : Bel wr => p.cell d3
      have f3 := fun p : Bel wr => p.cell e3
      have c4 := fun p : Bel wr => p.cell d4
      have f4 := fun p : Bel wr => p.cell e4
      have c5 := fun p : Bel wr => p.cell d5
      have f5 := fun p : Bel wr => p.cell e5
      clear hv0 hv0' d0 d1 d2 d3 d4 d5 e0 e1 e2 e3 e4 e5
      go_wp2_with fail
      refine wp_region_below (by kernel_rfl) (by kernel_rfl) ?_
      repeat (go_big_quiet_step ((go_at_call 44; exact bel_of (kE _))))
      refine wpQuiet_nil ?_
      intro _ hw'
      obtain ⟨pq, hw''⟩ := hw'
      subst hw''
      have hb3 := hb.trans (pq.h.mono hb.size)
      clear c0 c1 c2 c3 c4 c5 f0 f1 f2 f3 f4 f5
      go_wp2
      go_roundw
      case rel => exact ⟨k + 1, by omega, by go_num, hb3⟩
      case measure => simp [intOf]; omega
    · have hltz : ¬ (k : Int) < (l.length : Int) := by omega
      go_wp2
      go_ret
      exact ⟨rfl, hb⟩
/-- What is being marked: room in a block, nothing else is written. -/
def MS (w wr : World) (b n : Nat) : Prop := Room wr b 0 n ∧ w.grownBy wr (some b)
theorem MS.set {w wr : World} {b n : Nat} (h : MS w wr b n) (j : Nat) (u : Value) : MS w (wr.setCell ⟨b, j, none⟩ u) b n := ⟨h.1.set _ _ _, gr_trans h.2 (gr_set _ _ _ _)⟩
theorem MS.call {w wr wx : World} {b n : Nat} (h : MS w wr b n) (k : Below wr.heap.size wr wx) : MS w wx b n := ⟨h.1.below k, gr_bel h.2 k⟩
theorem MS.at {w wr : World} {b n : Nat} (h : MS w wr b n) (j : Nat) (hj : j < n) : ∃ u, wr.cell? ⟨b, j, none⟩ = some u ∧ wr.frozen? ⟨b, j, none⟩ = false := by
  obtain ⟨h1, h2⟩ := h.1 j hj
  rw [Nat.zero_add] at h1 h2
  obtain ⟨u, hu⟩ := Option.isSome_iff_exists.1 h1
  exact ⟨u, hu, h2⟩
set_option maxHeartbeats 3200000 in
set_option maxRecDepth 100000 in
theorem mark_y (b cap n k : Nat) (w : World) (hr : Room w b 0 (n * 6)) (hn : n ≤ 1048576) (hk1 : 1 ≤ k) (hk : k ≤ 1048576) :
    Calls Tryd.prog 26 #[.slice (some ⟨b, 0, none⟩) n cap, .int .i64 (k : Int)] w fun e w' => ∃ q : Int, e = .returned (.int .i64 q) ∧ 0 ≤ q ∧ w.grownBy w' (some b) := by
  have HM0 : Hid (MS w w b (n * 6)) := ⟨hr, gr_refl _ _⟩
  clear hr
  go_enter Tryd.func26, Tryd.ntmps26
  go_wp2
  go_loopw [5, 1] (fun iv kv wr => ∃ (j m : Nat), j ≤ n ∧ iv = .int .i64 j ∧ kv = .int .i64 (m : Int) ∧ 1 ≤ m ∧ m ≤ 1048576 + 6 * j ∧ Hid (MS w wr b (n * 6))) (fun iv _ _ => n - (intOf iv).toNat)
  case atStart => exact ⟨0, k, Nat.zero_le _, rfl, rfl, hk1, by omega, HM0⟩
  case round =>
    obtain ⟨j, m, hj, rfl, rfl, hm1, hm2, HM⟩ := hrel
    clear HM0
    by_cases hlt : j < n
    · have hltz : (j : Int) < (n : Int) := by omega
      have kM3 := fun W => mtext_any (m + 3) (by omega) (by omega) W
      have kM5 := fun W => mtext_any (m + 5) (by omega) (by omega) W
      rw [show ((m + 3 : Nat) : Int) = (m : Int) + 1 + 1 + 1 from by omega] at kM3
      rw [show ((m + 5 : Nat) : Int) = (m : Int) + 1 + 1 + 1 + 1 + 1 from by omega] at kM5
      generalize mtxt (m + 3) = T3 at *
      generalize mtxt (m + 5) = T5 at *
      obtain ⟨u0, e0, f0⟩ := HM.out.at (j * 6) (by omega)
      obtain ⟨u1, e1, f1⟩ := HM.out.at (j * 6 + 1) (by omega)
      obtain ⟨u2, e2, f2⟩ := HM.out.at (j * 6 + 2) (by omega)
      have hq1 : (wr.setCell ⟨b, j * 6, none⟩ (.int .i64 ((m : Int)))).cell? ⟨b, j * 6 + 1, none⟩ = some u1 := by rw [cell_off _ _ _ _ _ (by omega), e1]
      have hq2 : ((wr.setCell ⟨b, j * 6, none⟩ (.int .i64 ((m : Int)))).setCell ⟨b, j * 6 + 1, none⟩ (.int .i64 ((m : Int) + 1))).cell? ⟨b, j * 6 + 2, none⟩ = some u2 := by rw [cell_off _ _ _ _ _ (by omega), cell_off _ _ _ _ _ (by omega), e2]
      have HM1' := (((HM.out.set (j * 6) (.int .i64 ((m : Int)))).set (j * 6 + 1) (.int .i64 ((m : Int) + 1))).set (j * 6 + 2) (.int .i64 ((m : Int) + 1 + 1)))
      go_wp2_with fail
      clear e0 f0 e1 f1 e2 f2 hq1 hq2 HM
      generalize (((wr.setCell _ _).setCell _ _).setCell _ _ : World) = w1 at *
      have HM1 : Hid (MS w w1 b (n * 6)) := HM1'
      clear HM1'
      refine (kM3 _).mono ?_
      rintro e w2 ⟨rfl, b2⟩
      have HM2 : Hid (MS w w2 b (n * 6)) := HM1.out.call b2
      clear HM1 b2 kM3
      obtain ⟨u3, e3, f3⟩ := HM2.out.at (j * 6 + 3) (by omega)
      obtain ⟨u4, e4, f4⟩ := HM2.out.at (j * 6 + 4) (by omega)
      have hq4 : (w2.setCell ⟨b, j * 6 + 3, none⟩ (.string T3)).cell? ⟨b, j * 6 + 4, none⟩ = some u4 := by rw [cell_off _ _ _ _ _ (by omega), e4]
      have HM3' := (HM2.out.set (j * 6 + 3) (.string T3)).set (j * 6 + 4) (.int .i64 ((m : Int) + 1 + 1 + 1 + 1))
      go_wp2_with fail
      clear e3 f3 e4 f4 hq4 HM2
      generalize ((w2.setCell _ _).setCell _ _ : World) = w3 at *
      have HM3 : Hid (MS w w3 b (n * 6)) := HM3'
      clear HM3'
      refine (kM5 _).mono ?_
      rintro e w4 ⟨rfl, b4⟩
      have HM4 : Hid (MS w w4 b (n * 6)) := HM3.out.call b4
      clear HM3 b4 kM5
      obtain ⟨u5, e5, f5⟩ := HM4.out.at (j * 6 + 5) (by omega)
      have HM5 : Hid (MS w (w4.setCell ⟨b, j * 6 + 5, none⟩ (.string T5)) b (n * 6)) := HM4.out.set _ _
      go_wp2
      go_roundw
      case rel => exact ⟨j + 1, m + 6, by omega, by go_num, by go_num, by omega, by omega, HM5⟩
      case measure => simp [intOf]; omega
    · have hltz : ¬ (j : Int) < (n : Int) := by omega
      have HG : Hid (w.grownBy wr (some b)) := HM.out.2
      clear HM
      go_wp2
      go_ret
      exact ⟨_, rfl, by omega, HG.out⟩
end Go.Proofs.YtclajbadeclbdaaDoor
