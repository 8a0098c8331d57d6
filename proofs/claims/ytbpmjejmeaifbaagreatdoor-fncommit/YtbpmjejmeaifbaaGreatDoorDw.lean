/- Draws, as far as the laws of chapter 6 ask: whatever is drawn is of some size; old memory stands but for the cursor. Conditions: a code of at most 2 to the 20 bytes. -/
import Derived.Test.YtbpmjejmeaifbaaGreatDoorMG
import Derived.Test.YtbpmjejmeaifbaaGreatDoorGr
import Derived.Test.YtbpmjejmeaifbaaGreatDoorEn
namespace Go.Proofs.YtbpmjejmeaifbaaGreatDoor
open Go.RowKit
open Num
set_option linter.unusedVariables false
theorem own_gr {w w' : World} {B g : Nat} {e : TypeId} {size : Nat} {v : Value} {n : Nat} {xs : List Value} (h : w.ownsRow B e size v n xs) (hg : w.grownBy w' (some g)) (hB : g < B) : w'.ownsRow B e size v n xs := by
  obtain ⟨h1, h2⟩ := h
  refine ⟨h1, ?_⟩
  rcases h2 with h2 | ⟨g', cap, cur, hv, hgB, hh, r⟩
  · exact Or.inl h2
  · exact Or.inr ⟨g', cap, cur, hv, hgB, by rw [hg.block g' ((Array.getElem?_eq_some_iff.1 hh).1) (fun e => by injection e; omega)]; exact hh, r⟩
/-- What is drawn of validators. -/
def Drawn (l : List V) : Prop := l.length ≤ 8 ∧ ∀ v ∈ l, -1 ≤ v.p ∧ v.p ≤ 1001
theorem gr_alloc {a w : World} {r : Option Nat} (h : a.grownBy w r) (o : Obj) : a.grownBy (w.alloc o) r :=
  gr_trans h ⟨rfl, rfl, rfl, by simp, fun k hk _ => Below.heap_alloc w o k hk⟩
set_option maxHeartbeats 800000 in
set_option maxRecDepth 100000 in
theorem some_d (g B : Nat) (w : World) (h : DS w g B) (hB : B ≤ w.heap.size) :
    Calls Tryz.prog 45 #[.pointer (some ⟨g, 0, none⟩)] w fun e w' => ∃ (v : Value) (l : List V), e = .returned v ∧ Hid (OwnV w' w.heap.size v l) ∧ Hid (1 ≤ l.length ∧ l.length ≤ 4 ∧ Drawn l) ∧ Hid (DS w' g B) ∧ Hid (w.grownBy w' (some g)) := by
  obtain ⟨i0, hinf, hz0, hz1, hz2⟩ := info33f
  have hgl := h.lt
  have hgw : g < w.heap.size := by omega
  have hb0 : Below w.heap.size w (w.alloc (.cells #[] 69)) := (Below.refl _ _).alloc (Nat.le_refl _) _
  have HD0 : Hid (DS (w.alloc (.cells #[] 69)) g B) := h.below (hb0.mono hB)
  have HO0 : Hid (OwnV (w.alloc (.cells #[] 69)) w.heap.size (.slice (some ⟨w.heap.size, 0, none⟩) 0 0) []) := World.ownsRow_made w #[] 0 (Nat.le_refl _) (by decide) rfl
  have HG0 : Hid (w.grownBy (w.alloc (.cells #[] 69)) (some g)) := gr_alloc (gr_refl _ _) _
  clear h hb0
  go_enter Tryz.func45, Tryz.ntmps45
  go_wp2_with fail
  refine (below_d g B 4 _ HD0.out (by omega)).mono ?_
  rintro e w1 ⟨x, rfl, hx0, hx1, HD1, HG1⟩
  have HO1 : Hid (OwnV w1 w.heap.size (.slice (some ⟨w.heap.size, 0, none⟩) 0 0) []) := own_gr HO0.out HG1.out hgw
  have HG2 : Hid (w.grownBy w1 (some g)) := gr_trans HG0.out HG1.out
  clear HG1 HO0 HD0 HG0
  obtain ⟨t, ht⟩ : ∃ t : Nat, 1 + x = (t : Int) := ⟨(1 + x).toNat, by omega⟩
  have ht1 : 1 ≤ t := by omega
  have ht4 : t ≤ 4 := by omega
  clear hx0 hx1
  go_wp2
  go_loopw [5, 3, 4] (fun nv ov iv wr => ∃ (m : Nat) (q : Value) (l : List V) (id : Int), nv = .int .i64 m ∧ q = ov ∧ iv = .int .i64 id ∧ l.length + m = t ∧ 0 ≤ id ∧ id ≤ 1 + 2 * (l.length : Int) ∧ Hid (OwnV wr w.heap.size q l) ∧ Hid (∀ v ∈ l, -1 ≤ v.p ∧ v.p ≤ 1001) ∧ Hid (DS wr g B) ∧ Hid (w.grownBy wr (some g))) (fun nv _ _ _ => (intOf nv).toNat)
  case atStart => exact ⟨t, _, [], 1, by first | rfl | rw [ht], rfl, rfl, by simp, by omega, by simp, HO1, fun v hv => by simp at hv, HD1, HG2⟩
  case round =>
    clear HO1 HD1 HG2 w1
    obtain ⟨m, q, l, id, rfl, rfl, rfl, hlm, hid0, hid1, HO, HP, HD, HG⟩ := hrel
    by_cases hm : 0 < m
    · have hmz : (0 : Int) < (m : Int) := by omega
      go_wp2_with fail
      refine (below_d g B 5 _ HD.out (by omega)).mono ?_
      rintro e w2 ⟨y, rfl, hy0, hy1, HD2, HG2⟩
      have HO2 : Hid (OwnV (w2.alloc (.cells #[.int .i64 id, .int .i64 (1 + y)] 69)) w.heap.size q l) := World.ownsRow.alloc (own_gr HO.out HG2.out hgw) _
      have HG3 : Hid (w.grownBy w2 (some g)) := gr_trans HG.out HG2.out
      have hs2 : w.heap.size ≤ w2.heap.size := HG3.out.size
      have HC : Hid (_) := one_val w2 ⟨id, 1 + y⟩ w2.heap.size rfl
      clear HG2
      go_wp2_with (at_builtin; refine wpList_append_own _ rfl _ _ 24 rfl w.heap.size 69 i0 (.agg #[.int .i64 0, .int .i64 0]) 2 16 Tryz.underlying24 hinf hz0 hz1 hz2 rfl (by decide) _ _ _ rfl HO2.out ⟨w2.heap.size, 0, none⟩ 1 1 (vals [⟨id, 1 + y⟩]) rfl rfl HC.out (vals_one _) (by unfold maxLen; omega) (by omega) (by simp; omega) ?_)
      intro v' w3 hown' hgrow _
      have hob : ∀ j, q.ownBlock = some j → w.heap.size ≤ j := fun j hj => (HO.out.lt j hj).1
      have HO3 : Hid (OwnV w3 w.heap.size v' (l ++ [⟨id, 1 + y⟩])) := own_snocV hown'
      have HG4 : Hid (w.grownBy w3 (some g)) := grown_fresh (gr_alloc HG3.out _) hgrow hob
      have HD4 : Hid (DS w3 g B) := HD2.out.below ((((Below.refl _ _).alloc (by omega) _)).grown hgrow (by simp; omega) (fun j hj => by have := hob j hj; omega))
      clear hown' hgrow HC HO2 HG3 HD2 hob
      go_wp2_with fail
      refine (below_d g B 2 _ HD4.out (by omega)).mono ?_
      rintro e w4 ⟨z, rfl, hz0', hz1', HD5, HG5⟩
      have HO5 : Hid (OwnV w4 w.heap.size v' (l ++ [⟨id, 1 + y⟩])) := own_gr HO3.out HG5.out hgw
      have HG6 : Hid (w.grownBy w4 (some g)) := gr_trans HG4.out HG5.out
      clear HO3 HG5 HD4 HG4
      go_wp2
      go_roundw
      case rel =>
        have R : ∃ (m' : Nat) (q' : Value) (l' : List V) (id' : Int), Value.int .i64 ((m : Int) - 1) = .int .i64 m' ∧ q' = v' ∧ Value.int .i64 (id + 1 + z) = .int .i64 id' ∧ l'.length + m' = t ∧ 0 ≤ id' ∧ id' ≤ 1 + 2 * (l'.length : Int) ∧ Hid (OwnV w4 w.heap.size q' l') ∧ Hid (∀ v ∈ l', -1 ≤ v.p ∧ v.p ≤ 1001) ∧ Hid (DS w4 g B) ∧ Hid (w.grownBy w4 (some g)) := by
          refine ⟨m - 1, v', l ++ [⟨id, 1 + y⟩], id + 1 + z, by first | go_num | (congr 1; omega), rfl, rfl, by simp; omega, by omega, by simp; omega, HO5, ?_, HD5, HG6⟩
          intro v hv
          rcases List.mem_append.1 hv with hv | hv
          · exact HP.out v hv
          · simp at hv; subst hv; simp; omega
        first | exact R | ((repeat apply Exists.intro); exact ⟨R, rfl⟩)
      case measure => simp [intOf]; omega
    · have hmz : ¬ (0 : Int) < (m : Int) := by omega
      have HL : Hid (1 ≤ l.length ∧ l.length ≤ 4 ∧ Drawn l) := ⟨by omega, by omega, by omega, HP.out⟩
      go_wp2
      go_ret
      exact ⟨_, rfl, l, HO, HL, HD, HG⟩
theorem vals_set_i : ∀ (l : List V) (k : Nat) (x : Int) (hk : k < l.length), (vals l).set (k * 2) (.int .i64 x) = vals (l.set k ⟨x, l[k].p⟩)
  | v :: l, 0, x, _ => by simp [vals]
  | v :: l, k + 1, x, h => by
    have ih := vals_set_i l k x (by simpa using h)
    have e : ∀ (y : V) (m : List V), vals (y :: m) = .int .i64 y.i :: .int .i64 y.p :: vals m := fun _ _ => rfl
    rw [e, show (k + 1) * 2 = (k * 2) + 1 + 1 from by omega, List.set_cons_succ, List.set_cons_succ, ih]
    rfl
theorem vals_set_p : ∀ (l : List V) (k : Nat) (x : Int) (hk : k < l.length), (vals l).set (k * 2 + 1) (.int .i64 x) = vals (l.set k ⟨l[k].i, x⟩)
  | v :: l, 0, x, _ => by simp [vals]
  | v :: l, k + 1, x, h => by
    have ih := vals_set_p l k x (by simpa using h)
    have e : ∀ (y : V) (m : List V), vals (y :: m) = .int .i64 y.i :: .int .i64 y.p :: vals m := fun _ _ => rfl
    rw [e, show (k + 1) * 2 + 1 = (k * 2 + 1) + 1 + 1 from by omega, List.set_cons_succ, List.set_cons_succ, ih]
    rfl
/-- One cell of a row that the call owns is written. -/
theorem own_put {w : World} {B g n cap j : Nat} {xs : List Value} {u : Value} (h : w.ownsRow B 69 2 (.slice (some ⟨g, 0, none⟩) n cap) n xs) (hj : j < n * 2) : (w.setCell ⟨g, j, none⟩ u).ownsRow B 69 2 (.slice (some ⟨g, 0, none⟩) n cap) n (xs.set j u) := by
  obtain ⟨h1, h2⟩ := h
  refine ⟨by rw [List.length_set]; exact h1, ?_⟩
  rcases h2 with ⟨h2, _⟩ | ⟨g', cap', cur, hv, hgB, hh, h3, h4, h5, h6⟩
  · cases h2
  · simp only [Value.slice.injEq, Option.some.injEq, Addr.mk.injEq, and_true, true_and] at hv
    obtain ⟨rfl, rfl⟩ := hv
    refine Or.inr ⟨g, cap, cur.setIfInBounds j u, rfl, hgB, ?_, h3, h4, by rw [Array.size_setIfInBounds]; exact h5, ?_⟩
    · rw [heap_setCell_same w g j _ 69 _ hh]
    · rw [Array.toList_setIfInBounds, List.take_set, h6]
theorem own_seti {w : World} {B g cap k : Nat} {l : List V} {x : Int} (h : OwnV w B (.slice (some ⟨g, 0, none⟩) l.length cap) l) (hk : k < l.length) : OwnV (w.setCell ⟨g, k * 2, none⟩ (.int .i64 x)) B (.slice (some ⟨g, 0, none⟩) l.length cap) (l.set k ⟨x, l[k].p⟩) := by
  have := own_put (u := .int .i64 x) h (show k * 2 < l.length * 2 by omega)
  rw [vals_set_i l k x hk] at this
  unfold OwnV
  rw [List.length_set]; exact this
theorem own_setp {w : World} {B g cap k : Nat} {l : List V} {x : Int} (h : OwnV w B (.slice (some ⟨g, 0, none⟩) l.length cap) l) (hk : k < l.length) : OwnV (w.setCell ⟨g, k * 2 + 1, none⟩ (.int .i64 x)) B (.slice (some ⟨g, 0, none⟩) l.length cap) (l.set k ⟨l[k].i, x⟩) := by
  have := own_put (u := .int .i64 x) h (show k * 2 + 1 < l.length * 2 by omega)
  rw [vals_set_p l k x hk] at this
  unfold OwnV
  rw [List.length_set]; exact this
theorem OwnV.row {w : World} {B : Nat} {v : Value} {l : List V} (h : OwnV w B v l) (h0 : 0 < l.length) : ∃ g cap, v = .slice (some ⟨g, 0, none⟩) l.length cap ∧ B ≤ g ∧ (∀ j, j < l.length * 2 → (w.cell? ⟨g, j, none⟩).isSome = true ∧ w.frozen? ⟨g, j, none⟩ = false) := by
  have h' := h
  rcases h.2 with ⟨rfl, hn⟩ | ⟨g, cap, cur, rfl, hB, hg, hnc, hcm, _⟩
  · omega
  · refine ⟨g, cap, rfl, hB, fun j hj => ⟨?_, h'.frozenAt j⟩⟩
    rw [h'.cellAt j (by omega), List.getElem?_eq_getElem (by rw [vals_length]; exact hj)]; rfl
theorem drawn_set {l : List V} {k : Nat} {v : V} (h : Drawn l) (hv : -1 ≤ v.p ∧ v.p ≤ 1001) : Drawn (l.set k v) := by
  refine ⟨by rw [List.length_set]; exact h.1, fun x hx => ?_⟩
  rcases List.mem_or_eq_of_mem_set hx with hx | hx
  · exact h.2 x hx
  · rw [hx]; exact hv
theorem gr_setnew {a w : World} {g b j : Nat} (h : a.grownBy w (some g)) (hb : a.heap.size ≤ b) (u : Value) : a.grownBy (w.setCell ⟨b, j, none⟩ u) (some g) :=
  grown_fresh h (gr_set w b j u) (fun k e => by injection e with e; omega)
theorem nn_of {w : World} {B : Nat} {v : Value} {l : List V} (h : OwnV w B v l) (h0 : 1 ≤ l.length) : ¬ v = Value.slice none 0 0 := by
  obtain ⟨g, cap, rfl, _⟩ := OwnV.row h h0
  intro e; cases e
end Go.Proofs.YtbpmjejmeaifbaaGreatDoor
