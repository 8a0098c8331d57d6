/- What the laws' helpers szCSig, szCSigS, szCommit, toCSig, toCSigS, toCommit, eqCSig, eqCSigS and eqCommit answer; old memory stays. Conditions: rows that a machine can hold. -/
import Derived.Test.YtajfmjgaaapjeaaGreatDoorG5
namespace Go.Proofs.YtajfmjgaaapjeaaGreatDoor
open Go.RowKit
open Num
set_option linter.unusedVariables false
/-- Cells that may be written. -/
def Room (w : World) (b o n : Nat) : Prop := ∀ j, j < n → (w.cell? ⟨b, o + j, none⟩).isSome = true ∧ w.frozen? ⟨b, o + j, none⟩ = false
theorem Room.below {w w' : World} {b o n : Nat} (h : Room w b o n) (hb : Below w.heap.size w w') : Room w' b o n := fun j hj => by
  obtain ⟨h1, h2⟩ := h j hj
  obtain ⟨u, hu⟩ := Option.isSome_iff_exists.1 h1
  have hlt := World.block_lt_of_cell? w _ hu
  exact ⟨by rw [hb.cell (p := ⟨b, o + j, none⟩) hlt]; exact h1, by rw [hb.frozen (p := ⟨b, o + j, none⟩) hlt]; exact h2⟩
theorem some_set (w : World) (a x : Addr) (u : Value) (h : (w.cell? x).isSome = true) : ((w.setCell a u).cell? x).isSome = true := by
  by_cases e : x = a
  · subst e; rw [World.cell?_setCell_same' w x u h]; rfl
  · rw [World.cell?_setCell_other w a x u (fun h => e h.symm)]; exact h
theorem Room.set {w : World} {b o n : Nat} (h : Room w b o n) (g p : Nat) (u : Value) : Room (w.setCell ⟨g, p, none⟩ u) b o n := fun j hj => by
  obtain ⟨h1, h2⟩ := h j hj
  exact ⟨some_set w _ _ u h1, by rw [World.frozen?_setCell]; exact h2⟩
theorem SAt.snoc {w : World} {b o : Nat} {l : List Sg} {v : Sg} (h : SAt w b o l) (h1 : (w.cell? ⟨b, o + l.length * 2, none⟩).isSome = true) (h2 : (w.cell? ⟨b, o + l.length * 2 + 1, none⟩).isSome = true) :
    SAt ((w.setCell ⟨b, o + l.length * 2, none⟩ (.int .i64 v.v)).setCell ⟨b, o + l.length * 2 + 1, none⟩ (.string v.s)) b o (l ++ [v]) := fun j hj => by
  by_cases hlt : j < l.length
  · obtain ⟨k1, k2⟩ := h j hlt
    rw [World.cell?_setCell_other _ ⟨b, o + l.length * 2 + 1, none⟩ ⟨b, o + j * 2, none⟩ _ (fun e => by injection e; omega), World.cell?_setCell_other _ ⟨b, o + l.length * 2, none⟩ ⟨b, o + j * 2, none⟩ _ (fun e => by injection e; omega),
      World.cell?_setCell_other _ ⟨b, o + l.length * 2 + 1, none⟩ ⟨b, o + j * 2 + 1, none⟩ _ (fun e => by injection e; omega), World.cell?_setCell_other _ ⟨b, o + l.length * 2, none⟩ ⟨b, o + j * 2 + 1, none⟩ _ (fun e => by injection e; omega), k1, k2]
    simp [hlt]
  · have : j = l.length := by simp at hj; omega
    subst this
    obtain ⟨u1, e1⟩ := Option.isSome_iff_exists.1 h1
    obtain ⟨u2, e2⟩ := Option.isSome_iff_exists.1 h2
    have e3 : (w.setCell ⟨b, o + l.length * 2, none⟩ (.int .i64 v.v)).cell? ⟨b, o + l.length * 2 + 1, none⟩ = some u2 := by
      rw [World.cell?_setCell_other _ ⟨b, o + l.length * 2, none⟩ ⟨b, o + l.length * 2 + 1, none⟩ _ (fun e => by injection e; omega)]; exact e2
    rw [World.cell?_setCell_other _ ⟨b, o + l.length * 2 + 1, none⟩ ⟨b, o + l.length * 2, none⟩ _ (fun e => by injection e; omega), World.cell?_setCell_same _ _ _ e1, World.cell?_setCell_same _ _ _ e3]
    simp
theorem SAt.setO {w : World} {b o : Nat} {l : List Sg} (h : SAt w b o l) (g p : Nat) (u : Value) (hne : g ≠ b) : SAt (w.setCell ⟨g, p, none⟩ u) b o l := fun j hj => by
  obtain ⟨h1, h2⟩ := h j hj
  exact ⟨by rw [World.cell?_setCell_other w ⟨g, p, none⟩ ⟨b, o + j * 2, none⟩ _ (fun e => by injection e; omega)]; exact h1,
    by rw [World.cell?_setCell_other w ⟨g, p, none⟩ ⟨b, o + j * 2 + 1, none⟩ _ (fun e => by injection e; omega)]; exact h2⟩
/-- Small enough for the laws. -/
def Small (x : Ct) : Prop := x.i.size ≤ 1048576 ∧ x.l.length ≤ 1048576 ∧ ∀ y ∈ x.l, y.s.size ≤ 1048576
theorem Small.ok {x : Ct} (h : Small x) : SzOk x := ⟨by have := h.1; omega, by have := h.2.1; omega, fun y hy => by have := h.2.2 y hy; omega⟩
def szG (n : Nat) (left : Int) : Int := if left < (n : Int) then -1 else left - (n : Int)
set_option maxHeartbeats 400000 in
set_option maxRecDepth 100000 in
theorem sz_sg (x : Sg) (left : Int) (w : World) (hx : x.s.size ≤ 9223372036854775807) (h0 : 0 ≤ left) (h1 : left ≤ 1048576) :
    Calls Tryz.prog 88 #[sgV x, .int .i64 left] w fun e w' => e = .returned (.int .i64 (szG x.s.size left)) ∧ Below w.heap.size w w' := by
  obtain ⟨v, s⟩ := x
  unfold sgV szG
  simp only at *
  by_cases h : left < (s.size : Int)
  · rw [if_pos h]
    have h' : left - (s.size : Int) < 0 := by omega
    go_enter Tryz.func88, Tryz.ntmps88
    go_wp2
    go_ret
    exact ⟨rfl, below_one _ _⟩
  · rw [if_neg h]
    have h' : ¬ left - (s.size : Int) < 0 := by omega
    go_enter Tryz.func88, Tryz.ntmps88
    go_wp2
    go_ret
    exact ⟨rfl, below_one _ _⟩
set_option maxHeartbeats 800000 in
set_option maxRecDepth 100000 in
theorem sz_sgs (a : Option Addr) (l : List Sg) (cap : Nat) (left : Int) (w : World) (hl : SO w a l) (hlen : l.length ≤ 9223372036854775807) (hs : ∀ y ∈ l, y.s.size ≤ 9223372036854775807) (h0 : 0 ≤ left) (h1 : left ≤ 1048576) :
    Calls Tryz.prog 55 #[.slice a l.length cap, .int .i64 left] w fun e w' => ∃ r : Int, e = .returned (.int .i64 r) ∧ -1 ≤ r ∧ r ≤ left ∧ Hid (0 ≤ r → l.length ≤ 1048576 ∧ ∀ y ∈ l, y.s.size ≤ 1048576) ∧ Below w.heap.size w w' := by
  have HL : Hid (SO w a l) := hl
  have HS : Hid (∀ y ∈ l, y.s.size ≤ 9223372036854775807) := hs
  clear hl hs
  by_cases hn : left - (l.length : Int) < 0
  · go_enter Tryz.func55, Tryz.ntmps55
    go_wp2
    go_ret
    exact ⟨_, rfl, by omega, by omega, fun h => absurd h (by decide), Below.refl _ _⟩
  have hl20 : l.length ≤ 1048576 := by omega
  go_enter Tryz.func55, Tryz.ntmps55
  go_wp2
  go_loopw [5, 1] (fun iv sv wr => ∃ (k : Nat) (r : Int), k ≤ l.length ∧ iv = .int .i64 k ∧ sv = .int .i64 r ∧ 0 ≤ r ∧ r ≤ left ∧ Hid (∀ j (hj : j < l.length), j < k → l[j].s.size ≤ 1048576) ∧ Below w.heap.size w wr) (fun iv _ _ => l.length - (intOf iv).toNat)
  case atStart => exact ⟨0, _, Nat.zero_le _, rfl, rfl, by omega, by omega, (fun j hj h => absurd h (by omega)), Below.refl _ _⟩
  case round =>
    obtain ⟨k, r, hk, rfl, rfl, hr0, hr1, HA, hb⟩ := hrel
    by_cases hlt : k < l.length
    · have hltz : (k : Int) < (l.length : Int) := by omega
      rcases HL.out with hz | ⟨b, o, rfl, hS⟩
      · omega
      obtain ⟨c1, c2⟩ := (hS.below hb (hS.lt (by omega))) k hlt
      have hx := HS.out _ (List.getElem_mem hlt)
      have kZ := fun W => sz_sg l[k] r W hx hr0 (by omega)
      have HN : Hid (¬ szG l[k].s.size r < 0 → ∀ j (hj : j < l.length), j < k + 1 → l[j].s.size ≤ 1048576) := fun e j hj h => by
        by_cases e1 : j = k
        · subst e1; unfold szG at e; split at e <;> omega
        · exact HA.out j hj (by omega)
      have hz1 : szG l[k].s.size r ≤ r := by unfold szG; split <;> omega
      have hz2 : -1 ≤ szG l[k].s.size r := by unfold szG; split <;> omega
      unfold sgV at kZ
      clear hS hx
      generalize szG l[k].s.size r = q at *
      generalize l[k] = y at *
      by_cases hq : q < 0
      · go_wp2_with fail
        refine (kZ _).mono ?_
        rintro e w2 ⟨rfl, b2⟩
        have hb3 := hb.trans (b2.mono hb.size)
        go_wp2
        go_ret
        exact ⟨_, rfl, by omega, by omega, fun h => absurd h (by decide), hb3⟩
      · have HN2 : Hid (∀ j (hj : j < l.length), j < k + 1 → l[j].s.size ≤ 1048576) := HN.out hq
        go_wp2_with fail
        refine (kZ _).mono ?_
        rintro e w2 ⟨rfl, b2⟩
        have hb3 := hb.trans (b2.mono hb.size)
        go_wp2
        go_roundw
        case rel => exact ⟨k + 1, q, by omega, by go_num, rfl, by omega, by omega, HN2, hb3⟩
        case measure => simp [intOf]; omega
    · have hltz : ¬ (k : Int) < (l.length : Int) := by omega
      go_wp2
      go_ret
      have HF : Hid (∀ y ∈ l, y.s.size ≤ 1048576) := fun y hy => by obtain ⟨j, hj, rfl⟩ := List.getElem_of_mem hy; exact HA.out j hj (by omega)
      first | exact ⟨_, rfl, by omega, hr1, fun _ => ⟨hl20, HF.out⟩, hb⟩ | exact ⟨_, rfl, by omega, hr1, fun _ => HF.out, hb⟩
set_option maxHeartbeats 800000 in
set_option maxRecDepth 100000 in
theorem sz_com (x : Ct) (a : Option Addr) (cap : Nat) (left : Int) (w : World) (hl : SO w a x.l) (hs : SzOk x) (h0 : 0 ≤ left) (h1 : left ≤ 1048576) :
    Calls Tryz.prog 17 #[cV x a cap, .int .i64 left] w fun e w' => ∃ r : Int, e = .returned (.int .i64 r) ∧ r ≤ 1048576 ∧ Hid (0 ≤ r → Small x) ∧ Below w.heap.size w w' := by
  have HX : Hid (Blk (w.alloc (.cells (ccs x a cap).toArray 51)) w.heap.size (ccs x a cap) 51) := blk_new w _ _
  have HB : Hid (Below w.heap.size w (w.alloc (.cells (ccs x a cap).toArray 51))) := below_one _ _
  have HL : Hid (SO (w.alloc (.cells (ccs x a cap).toArray 51)) a x.l) := hl.below (below_one _ _)
  have HS : Hid (SzOk x) := hs
  have kS := fun (r : Int) (W : World) (h : SO W a x.l) (h0 : 0 ≤ r) (h1 : r ≤ 1048576) => sz_sgs a x.l cap r W h HS.out.2.1 HS.out.2.2 h0 h1
  have hi := hs.1
  have hle := hs.2.1
  clear hl hs
  have HF : Hid (x.i.size ≤ 1048576 → (x.l.length ≤ 1048576 ∧ ∀ y ∈ x.l, y.s.size ≤ 1048576) → Small x) := fun h1 h2 => ⟨h1, h2.1, h2.2⟩
  generalize Small x = P at *
  clear HS
  obtain ⟨h, r, i, l⟩ := x
  unfold cV
  unfold ccs at *
  simp only at HX HB HL kS hi hle HF ⊢
  have x2 := HX.out.cell 2 rfl
  have x3 := HX.out.cell 3 rfl
  by_cases hn : left - (i.size : Int) < 0
  · go_enter Tryz.func17, Tryz.ntmps17
    go_wp2
    go_ret
    exact ⟨_, rfl, by omega, fun h => absurd h (by decide), HB.out⟩
  · have hi20 : i.size ≤ 1048576 := by omega
    have hr0 : 0 ≤ left - (i.size : Int) := by omega
    have hr1 : left - (i.size : Int) ≤ 1048576 := by omega
    go_enter Tryz.func17, Tryz.ntmps17
    go_wp2_with fail
    refine (kS _ _ HL.out hr0 hr1).mono ?_
    rintro e w2 ⟨q, rfl, hq0, hq1, HQ, b2⟩
    have HB2 : Hid (Below w.heap.size w w2) := HB.out.trans (b2.mono HB.out.size)
    clear b2 x2 x3
    by_cases hq : q < 0
    · go_wp2
      go_ret
      exact ⟨_, rfl, by omega, fun h => absurd h (by decide), HB2.out⟩
    · go_wp2
      go_ret
      exact ⟨_, rfl, by omega, fun _ => HF.out hi20 (HQ.out (by omega)), HB2.out⟩
set_option maxHeartbeats 400000 in
set_option maxRecDepth 100000 in
theorem to_sg (x : Sg) (w : World) :
    Calls Tryz.prog 89 #[sgV x] w fun e w' => e = .returned (sgV x) ∧ Below w.heap.size w w' := by
  obtain ⟨v, s⟩ := x
  unfold sgV
  simp only
  go_enter Tryz.func89, Tryz.ntmps89
  go_wp2
  refine bodyPost_ret (v := .agg #[.int .i64 v, .string s]) (by simp [results, Tryz.results89, go_sem]) rfl ⟨rfl, ?_⟩
  exact (((Below.refl _ _).alloc (Nat.le_refl _) _).alloc (by simp) _).alloc (by simp; omega) _
theorem infoSg : ∃ i, Tryz.prog.info? 95 = some i ∧ i.zero = some (.agg #[.int .i64 0, .string ⟨#[]⟩]) ∧ i.size = 2 ∧ i.bytes = 24 :=
  info_parts (by kernel_rfl)
set_option maxHeartbeats 800000 in
set_option maxRecDepth 100000 in
theorem to_sgs (a : Option Addr) (l : List Sg) (cap : Nat) (w : World) (hl : SO w a l) (hlen : l.length ≤ 1048576) :
    Calls Tryz.prog 57 #[.slice a l.length cap] w fun e w' => e = .returned (.slice (some ⟨w.heap.size, 0, none⟩) l.length l.length) ∧ SAt w' w.heap.size 0 l ∧ Room w' w.heap.size 0 (l.length * 2) ∧ Below w.heap.size w w' ∧ w.heap.size < w'.heap.size := by
  obtain ⟨i0, hi, hz0, hz1, hz2⟩ := infoSg
  have HL : Hid (SO w a l) := hl
  clear hl
  go_enter Tryz.func57, Tryz.ntmps57
  go_wp2_with (at_make; refine wpList_make_full _ rfl _ _ 31 rfl w.heap.size 95 i0 (.agg #[.int .i64 0, .string ⟨#[]⟩]) 2 Tryz.underlying31 hi hz0 hz1 _ _ _ _ l.length rfl rfl rfl rfl (by rw [hz2]; omega) (by unfold maxLen; omega) (Nat.le_refl _) ?_; intro w1 hown hgr)
  have hroom : Room w1 w.heap.size 0 (l.length * 2) := fun j hj => by
    rw [Nat.zero_add]
    refine ⟨?_, hown.frozenAt j⟩
    rw [hown.cellAt j (by omega)]
    simp [madeCells]
    exact hj
  have hb1 := below_of_grown hgr
  have hs1 : w.heap.size < w1.heap.size := by
    rcases hown.2 with ⟨h', _⟩ | ⟨g', cap', cur, h', hb, hg, _⟩
    · simp at h'
    · simp only [Value.slice.injEq, Option.some.injEq, Addr.mk.injEq, and_true, true_and] at h'
      rw [← h'.1] at hg
      exact (Array.getElem?_eq_some_iff.1 hg).1
  clear hown hgr
  go_loopw [4] (fun iv wr => ∃ k : Nat, k ≤ l.length ∧ iv = .int .i64 k ∧ Hid (SAt wr w.heap.size 0 (l.take k)) ∧ Hid (Room wr w.heap.size 0 (l.length * 2)) ∧ Below w.heap.size w wr ∧ w.heap.size < wr.heap.size) (fun iv _ => l.length - (intOf iv).toNat)
  case atStart => exact ⟨0, Nat.zero_le _, rfl, fun j hj => by simp at hj, hroom, hb1, hs1⟩
  case round =>
    clear hroom hb1 hs1 w1
    obtain ⟨k, hk, rfl, HA, HR, hb, hsz⟩ := hrel
    by_cases hlt : k < l.length
    · have hltz : (k : Int) < (l.length : Int) := by omega
      rcases HL.out with h0 | ⟨b, o, rfl, hv0⟩
      · omega
      have hv := hv0.below hb (hv0.lt (by omega))
      obtain ⟨v, hvE⟩ : ∃ v, l[k] = v := ⟨_, rfl⟩
      have c1 := (hv k hlt).1
      have c2 := (hv k hlt).2
      rw [hvE] at c1 c2
      have kT := fun W => to_sg v W
      unfold sgV at kT
      clear hv hv0
      go_wp2_with fail
      refine (kT _).mono ?_
      rintro e w2 ⟨rfl, hb2⟩
      have hr2 := HR.out.below hb2
      have ha2 : SAt w2 w.heap.size 0 (l.take k) := HA.out.below hb2 hsz
      have hsz2 : w.heap.size < w2.heap.size := by have := hb2.size; omega
      have hb3 := hb.trans (hb2.mono hb.size)
      obtain ⟨s1, f1⟩ := hr2 (k * 2) (by omega)
      obtain ⟨s2, f2⟩ := hr2 (k * 2 + 1) (by omega)
      obtain ⟨u1, e1⟩ := Option.isSome_iff_exists.1 s1
      obtain ⟨u2, e2⟩ := Option.isSome_iff_exists.1 s2
      rw [Nat.zero_add] at e1 e2 f1 f2
      clear s1 s2 c1 c2
      go_wp2
      go_roundw
      case rel =>
        refine ⟨k + 1, by omega, by go_num, ?_, (hr2.set _ _ _).set _ _ _, (hb3.setCell (p := ⟨w.heap.size, k * 2, none⟩) (Nat.le_refl _) _).setCell (p := ⟨w.heap.size, k * 2 + 1, none⟩) (Nat.le_refl _) _, by simpa [World.setCell] using hsz2⟩
        show SAt _ _ _ _
        have hn := ha2.snoc (v := v) (by rw [List.length_take, Nat.min_eq_left (by omega), Nat.zero_add, e1]; rfl) (by rw [List.length_take, Nat.min_eq_left (by omega), Nat.zero_add, e2]; rfl)
        rw [List.length_take, Nat.min_eq_left (by omega), Nat.zero_add, ← hvE, ← List.take_succ_eq_append_getElem hlt, hvE] at hn
        exact hn
      case measure => simp [intOf]; omega
    · have hltz : ¬ (k : Int) < (l.length : Int) := by omega
      have hkl : k = l.length := by omega
      have HA' : Hid (SAt wr w.heap.size 0 l) := by have := HA.out; rw [hkl, List.take_length] at this; exact this
      clear hkl
      go_wp2
      go_ret
      exact ⟨rfl, HA'.out, HR.out, hb, hsz⟩
/-- A commit's copy: its row lies in a block of its own from B on, and may be written. -/
def Cop (w : World) (B : Nat) (x : Ct) (a : Option Addr) : Prop := ∃ b, a = some ⟨b, 0, none⟩ ∧ B ≤ b ∧ b < w.heap.size ∧ SAt w b 0 x.l ∧ Room w b 0 (x.l.length * 2)
theorem Cop.o {w : World} {B : Nat} {x : Ct} {a : Option Addr} (h : Cop w B x a) : SO w a x.l := by
  obtain ⟨b, rfl, _, _, h1, _⟩ := h; exact h1.o
theorem Cop.below {w w' : World} {B : Nat} {x : Ct} {a : Option Addr} (h : Cop w B x a) (hb : Below w.heap.size w w') : Cop w' B x a := by
  obtain ⟨b, rfl, h0, h1, h2, h3⟩ := h
  exact ⟨b, rfl, h0, by have := hb.size; omega, h2.below hb h1, h3.below hb⟩
set_option maxHeartbeats 800000 in
set_option maxRecDepth 100000 in
theorem to_com (x : Ct) (a : Option Addr) (cap : Nat) (w : World) (hl : SO w a x.l) (hlen : x.l.length ≤ 1048576) :
    Calls Tryz.prog 22 #[cV x a cap] w fun e w' => ∃ a', e = .returned (cV x a' x.l.length) ∧ Hid (Cop w' w.heap.size x a') ∧ Below w.heap.size w w' := by
  obtain ⟨w0, hw0⟩ : ∃ W, ((w.alloc (.cells (ccs x a cap).toArray 51)).alloc (.cells [.int .i64 0, .int .i64 0, .string ⟨#[]⟩, .slice none 0 0].toArray 33)).alloc (.cells [.int .i64 x.h, .int .i64 x.r, .string x.i, .slice none 0 0].toArray 33) = W := ⟨_, rfl⟩
  have z1 : (w.alloc (.cells (ccs x a cap).toArray 51)).heap.size = w.heap.size + 1 := by simp
  have z2 : ((w.alloc (.cells (ccs x a cap).toArray 51)).alloc (.cells [.int .i64 0, .int .i64 0, .string ⟨#[]⟩, .slice none 0 0].toArray 33)).heap.size = w.heap.size + 1 + 1 := by simp
  have HX : Hid (Blk w0 w.heap.size (ccs x a cap) 51) := by rw [← hw0]; exact ((blk_new w _ _).alloc _).alloc _
  have HR : Hid (Blk w0 (w.heap.size + 1) [.int .i64 0, .int .i64 0, .string ⟨#[]⟩, .slice none 0 0] 33) := by
    rw [← hw0]
    have h := (blk_new (w.alloc (.cells (ccs x a cap).toArray 51)) [.int .i64 0, .int .i64 0, .string ⟨#[]⟩, .slice none 0 0] 33).alloc (.cells [.int .i64 x.h, .int .i64 x.r, .string x.i, .slice none 0 0].toArray 33)
    rw [z1] at h; exact h
  have HY : Hid (Blk w0 (w.heap.size + 1 + 1) [.int .i64 x.h, .int .i64 x.r, .string x.i, .slice none 0 0] 33) := by
    rw [← hw0]
    have h := blk_new ((w.alloc (.cells (ccs x a cap).toArray 51)).alloc (.cells [.int .i64 0, .int .i64 0, .string ⟨#[]⟩, .slice none 0 0].toArray 33)) [.int .i64 x.h, .int .i64 x.r, .string x.i, .slice none 0 0] 33
    rw [z2] at h; exact h
  have HB : Hid (Below w.heap.size w w0) := by rw [← hw0]; exact (((Below.refl _ _).alloc (Nat.le_refl _) _).alloc (by simp) _).alloc (by simp; omega) _
  have HL : Hid (SO w0 a x.l) := hl.below HB.out
  have kS := fun (W : World) (h : SO W a x.l) => to_sgs a x.l cap W h hlen
  have HC : Hid (∀ W B b, SAt W b 0 x.l → Room W b 0 (x.l.length * 2) → b < W.heap.size → B ≤ b → Cop W B x (some ⟨b, 0, none⟩)) := fun W B b h1 h2 h3 h4 => ⟨b, rfl, h4, h3, h1, h2⟩
  clear hl z1 z2
  obtain ⟨h, r, i, l⟩ := x
  unfold cV
  unfold ccs at *
  simp only at hw0 HX HR HY HL kS HC hlen ⊢
  have x0 := HX.out.cell 0 rfl
  have x1 := HX.out.cell 1 rfl
  have x2 := HX.out.cell 2 rfl
  have x3 := HX.out.cell 3 rfl
  have hB1 : w.heap.size + 1 < w0.heap.size := HR.out.lt
  have hB2 : w.heap.size + 1 + 1 < w0.heap.size := HY.out.lt
  go_enter Tryz.func22, Tryz.ntmps22
  go_wp2_with fail
  refine (kS _ HL.out).mono ?_
  rintro e w1 ⟨rfl, hs, hr, b1, hlt⟩
  have HY1 : Hid (Blk w1 (w.heap.size + 1 + 1) [.int .i64 h, .int .i64 r, .string i, .slice none 0 0] 33) := HY.out.below b1 hB2
  have HR1 : Hid (Blk w1 (w.heap.size + 1) [.int .i64 0, .int .i64 0, .string ⟨#[]⟩, .slice none 0 0] 33) := HR.out.below b1 hB1
  have HB1 : Hid (Below w.heap.size w w1) := HB.out.trans (b1.mono HB.out.size)
  obtain ⟨G, hG⟩ : ∃ G, w0.heap.size = G := ⟨_, rfl⟩
  rw [hG] at hs hr hlt hB1 hB2
  have y0 := HY1.out.cell 0 rfl
  have y1 := HY1.out.cell 1 rfl
  have y2 := HY1.out.cell 2 rfl
  have y3 := HY1.out.cell 3 rfl
  have fy := HY1.out.frozen 3
  have z0 := HR1.out.cell 0 rfl
  have z1 := HR1.out.cell 1 rfl
  have z2 := HR1.out.cell 2 rfl
  have z3 := HR1.out.cell 3 rfl
  have f0 := HR1.out.frozen 0
  have f1 := HR1.out.frozen 1
  have f2 := HR1.out.frozen 2
  have f3 := HR1.out.frozen 3
  have HZ : Hid (Blk (((((w1.setCell ⟨w.heap.size + 1 + 1, 3, none⟩ (.slice (some ⟨G, 0, none⟩) l.length l.length)).setCell ⟨w.heap.size + 1, 0, none⟩ (.int .i64 h)).setCell ⟨w.heap.size + 1, 1, none⟩ (.int .i64 r)).setCell ⟨w.heap.size + 1, 2, none⟩ (.string i)).setCell ⟨w.heap.size + 1, 3, none⟩ (.slice (some ⟨G, 0, none⟩) l.length l.length)) (w.heap.size + 1) [.int .i64 h, .int .i64 r, .string i, .slice (some ⟨G, 0, none⟩) l.length l.length] 33) := (((((HR1.out.other 3 _ (by omega)).set 0 _).set 1 _).set 2 _).set 3 _)
  have HF : Hid (Below w.heap.size w (((((w1.setCell ⟨w.heap.size + 1 + 1, 3, none⟩ (.slice (some ⟨G, 0, none⟩) l.length l.length)).setCell ⟨w.heap.size + 1, 0, none⟩ (.int .i64 h)).setCell ⟨w.heap.size + 1, 1, none⟩ (.int .i64 r)).setCell ⟨w.heap.size + 1, 2, none⟩ (.string i)).setCell ⟨w.heap.size + 1, 3, none⟩ (.slice (some ⟨G, 0, none⟩) l.length l.length))) := ((((HB1.out.setCell (by show w.heap.size ≤ w.heap.size + 1 + 1; omega) _).setCell (by show w.heap.size ≤ w.heap.size + 1; omega) _).setCell (by show w.heap.size ≤ w.heap.size + 1; omega) _).setCell (by show w.heap.size ≤ w.heap.size + 1; omega) _).setCell (by show w.heap.size ≤ w.heap.size + 1; omega) _
  have HC1 : Hid (Cop (((((w1.setCell ⟨w.heap.size + 1 + 1, 3, none⟩ (.slice (some ⟨G, 0, none⟩) l.length l.length)).setCell ⟨w.heap.size + 1, 0, none⟩ (.int .i64 h)).setCell ⟨w.heap.size + 1, 1, none⟩ (.int .i64 r)).setCell ⟨w.heap.size + 1, 2, none⟩ (.string i)).setCell ⟨w.heap.size + 1, 3, none⟩ (.slice (some ⟨G, 0, none⟩) l.length l.length)) w.heap.size ⟨h, r, i, l⟩ (some ⟨G, 0, none⟩)) :=
    HC.out _ _ _ (((((hs.setO _ _ _ (by omega)).setO _ _ _ (by omega)).setO _ _ _ (by omega)).setO _ _ _ (by omega)).setO _ _ _ (by omega)) (((((hr.set _ _ _).set _ _ _).set _ _ _).set _ _ _).set _ _ _) (by simpa [World.setCell] using hlt) (by omega)
  have hGn1 : ¬ G = w.heap.size + 1 := by omega
  clear b1 hs hr hlt hw0 x0 x1 x2 x3
  rw [hG]
  go_wp2
  clear y0 y1 y2 y3 fy z0 z1 z2 z3 f0 f1 f2 f3
  have y0 := HZ.out.cell 0 rfl
  have y1 := HZ.out.cell 1 rfl
  have y2 := HZ.out.cell 2 rfl
  have y3 := HZ.out.cell 3 rfl
  refine bodyPost_ret (v := .agg #[.int .i64 h, .int .i64 r, .string i, .slice (some ⟨G, 0, none⟩) l.length l.length]) ?_ rfl ⟨_, rfl, HC1, HF.out⟩
  generalize hW : (((((w1.setCell _ _).setCell _ _).setCell _ _).setCell _ _).setCell _ _ : World) = W at *
  clear HZ HF HC1
  simp [results, Tryz.results22, go_sem, y0, y1, y2, y3]
/-- Two rows of the same signatures are alike. -/
theorem eq_sg (x : Sg) (w : World) :
    Calls Tryz.prog 90 #[sgV x, sgV x] w fun e w' => e = .returned (.bool true) ∧ Below w.heap.size w w' := by
  obtain ⟨v, s⟩ := x
  unfold sgV
  simp only
  have hbq : (s.toList == s.toList) = true := by simp
  go_enter Tryz.func90, Tryz.ntmps90
  go_wp2
  go_ret
  exact ⟨rfl, below_two _ _ _⟩
set_option maxHeartbeats 800000 in
set_option maxRecDepth 100000 in
theorem eq_sgs (a a' : Option Addr) (l : List Sg) (cap cap' : Nat) (w : World) (hl : SO w a l) (hl' : SO w a' l) (h1 : l.length ≤ 1099511627776) :
    Calls Tryz.prog 60 #[.slice a l.length cap, .slice a' l.length cap'] w fun e w' => e = .returned (.bool true) ∧ Below w.heap.size w w' := by
  have HL : Hid (SO w a l) := hl
  have HL' : Hid (SO w a' l) := hl'
  clear hl hl'
  go_enter Tryz.func60, Tryz.ntmps60
  go_wp2
  go_loopw [5] (fun iv wr => ∃ k : Nat, k ≤ l.length ∧ iv = .int .i64 k ∧ Below w.heap.size w wr) (fun iv _ => l.length - (intOf iv).toNat)
  case atStart => exact ⟨0, Nat.zero_le _, rfl, Below.refl _ _⟩
  case round =>
    obtain ⟨k, hk, rfl, hb⟩ := hrel
    by_cases hlt : k < l.length
    · have hltz : (k : Int) < (l.length : Int) := by omega
      rcases HL.out with h0 | ⟨b, o, rfl, hv0⟩
      · omega
      rcases HL'.out with h0 | ⟨b', o', rfl, hv0'⟩
      · omega
      have hn := bel_some wr
      have q := (hv0.below hb (hv0.lt (by omega))) k hlt
      have q' := (hv0'.below hb (hv0'.lt (by omega))) k hlt
      have c1 := fun p : Bel wr => p.cell q.1
      have c2 := fun p : Bel wr => p.cell q.2
      have c3 := fun p : Bel wr => p.cell q'.1
      have c4 := fun p : Bel wr => p.cell q'.2
      have kE := fun W => eq_sg l[k] W
      unfold sgV at kE
      generalize l[k] = y at *
      clear hv0 hv0' q q'
      go_wp2_with fail
      refine wp_region_below (by kernel_rfl) (by kernel_rfl) ?_
      repeat (go_big_quiet_step ((go_at_call 90; exact bel_of (kE _))))
      refine wpQuiet_nil ?_
      intro _ hw'
      obtain ⟨pq, hw''⟩ := hw'
      subst hw''
      have hb3 := hb.trans (pq.h.mono hb.size)
      clear c1 c2 c3 c4
      go_wp2
      go_roundw
      case rel => exact ⟨k + 1, by omega, by go_num, hb3⟩
      case measure => simp [intOf]; omega
    · have hltz : ¬ (k : Int) < (l.length : Int) := by omega
      go_wp2
      go_ret
      exact ⟨rfl, hb⟩
set_option maxHeartbeats 800000 in
set_option maxRecDepth 100000 in
theorem eq_com (x : Ct) (a a' : Option Addr) (cap cap' : Nat) (w : World) (hl : SO w a x.l) (hl' : SO w a' x.l) (h1 : x.l.length ≤ 1099511627776) :
    Calls Tryz.prog 25 #[cV x a cap, cV x a' cap'] w fun e w' => e = .returned (.bool true) ∧ Below w.heap.size w w' := by
  obtain ⟨w0, hw0⟩ : ∃ W, (w.alloc (.cells (ccs x a cap).toArray 33)).alloc (.cells (ccs x a' cap').toArray 33) = W := ⟨_, rfl⟩
  have HX : Hid (Blk w0 w.heap.size (ccs x a cap) 33) := by rw [← hw0]; exact (blk_new w _ _).alloc _
  have HY : Hid (Blk w0 (w.heap.size + 1) (ccs x a' cap') 33) := by
    rw [← hw0]
    have h := blk_new (w.alloc (.cells (ccs x a cap).toArray 33)) (ccs x a' cap') 33
    rw [show (w.alloc (.cells (ccs x a cap).toArray 33)).heap.size = w.heap.size + 1 by simp] at h; exact h
  have HB : Hid (Below w.heap.size w w0) := by rw [← hw0]; exact below_two _ _ _
  have kE := eq_sgs a a' x.l cap cap' w0 (hl.below HB.out) (hl'.below HB.out) h1
  clear hl hl'
  obtain ⟨h, r, i, l⟩ := x
  have hbq : (i.toList == i.toList) = true := by simp
  unfold cV
  unfold ccs at *
  simp only at hw0 HX HY kE h1 ⊢
  have x0 := HX.out.cell 0 rfl
  have x1 := HX.out.cell 1 rfl
  have x2 := HX.out.cell 2 rfl
  have x3 := HX.out.cell 3 rfl
  have y0 := HY.out.cell 0 rfl
  have y1 := HY.out.cell 1 rfl
  have y2 := HY.out.cell 2 rfl
  have y3 := HY.out.cell 3 rfl
  go_enter Tryz.func25, Tryz.ntmps25
  go_wp2_with fail
  refine kE.mono ?_
  rintro e w1 ⟨rfl, b1⟩
  go_wp2
  go_ret
  exact ⟨rfl, HB.out.trans (b1.mono HB.out.size)⟩
end Go.Proofs.YtajfmjgaaapjeaaGreatDoor
