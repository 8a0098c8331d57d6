/- Draws, as far as the laws of chapter 6 ask: whatever is drawn is of some size; old memory stands but for the cursor. Conditions: a code of at most 2 to the 20 bytes. -/
import Derived.Test.YtaeokecodejpdaaDoorG3
import Derived.Test.YtaeokecodejpdaaDoorG4
import Derived.Test.YtaeokecodejpdaaDoorG5
import Derived.Test.YtaeokecodejpdaaDoorRd
import Derived.Test.YtaeokecodejpdaaDoorMh
namespace Go.Proofs.YtaeokecodejpdaaDoor
open Go.RowKit
open Num
set_option linter.unusedVariables false
/-- A cursor at block g over some code; both lie below B. -/
def DS (w : World) (g B : Nat) : Prop :=
  ∃ (a : Option Addr) (L : List UInt8) (cap : Nat) (s : St), L.length ≤ 1048576 ∧ CurAt w g a L.length cap s ∧ CodeAt w g a L ∧ g < B ∧ ∀ j, j < L.length → ∃ b off, a = some ⟨b, off, none⟩ ∧ b < B
theorem DS.below {w w' : World} {g B : Nat} (h : DS w g B) (hb : Below B w w') : DS w' g B := by
  obtain ⟨a, L, cap, s, h1, h2, h3, h4, h5⟩ := h
  refine ⟨a, L, cap, s, h1, ?_, fun j hj => ?_, h4, h5⟩
  · unfold CurAt at h2 ⊢
    rw [hb.block g h4]; exact h2
  · obtain ⟨b, off, e, hne, hc⟩ := h3 j hj
    obtain ⟨b', off', e', hlt⟩ := h5 j hj
    rw [e] at e'
    simp at e'
    obtain ⟨rfl, rfl⟩ := e'
    exact ⟨b, off, e, hne, by rw [hb.cell (p := ⟨b, off + j, none⟩) hlt]; exact hc⟩
theorem DS.lt {w : World} {g B : Nat} (h : DS w g B) : g < B := by
  obtain ⟨a, L, cap, s, h1, h2, h3, h4, h5⟩ := h
  exact h4
theorem DS.lt' {w : World} {g B : Nat} (h : DS w g B) : g < w.heap.size := by
  obtain ⟨a, L, cap, s, h1, h2, h3, h4, h5⟩ := h
  exact (Array.getElem?_eq_some_iff.1 h2).1
theorem below_d (g B : Nat) (n : Int) (w : World) (h : DS w g B) (hn : 0 < n) :
    Calls Tryd.prog 20 #[.pointer (some ⟨g, 0, none⟩), .int .i64 n] w fun e w' => ∃ x : Int, e = .returned (.int .i64 x) ∧ 0 ≤ x ∧ x < n ∧ Hid (DS w' g B) ∧ Hid (w.grownBy w' (some g)) := by
  obtain ⟨a, L, cap, s, h1, h2, h3, h4, h5⟩ := h
  refine (below_any g a L cap s n w h2 h3 h1).mono ?_
  rintro e w' ⟨rfl, hc, hg⟩
  have hb := belowV_bound L s n hn
  exact ⟨_, rfl, hb.1, hb.2, ⟨a, L, cap, _, h1, hc, h3.kept hg, h4, h5⟩, hg⟩
theorem once_d (g B : Nat) (n : Int) (w : World) (h : DS w g B) :
    Calls Tryd.prog 32 #[.pointer (some ⟨g, 0, none⟩), .int .i64 n] w fun e w' => ∃ x : Bool, e = .returned (.bool x) ∧ Hid (DS w' g B) ∧ Hid (w.grownBy w' (some g)) := by
  obtain ⟨a, L, cap, s, h1, h2, h3, h4, h5⟩ := h
  refine (once_any g a L cap s n w h2 h3 h1).mono ?_
  rintro e w' ⟨rfl, hc, hg⟩
  exact ⟨_, rfl, ⟨a, L, cap, _, h1, hc, h3.kept hg, h4, h5⟩, hg⟩
theorem pick_d (g gl B : Nat) (zs : List Int) (w : World) (h : DS w g B) (hz : w.heap[gl]? = some (.cells (zs.map (Value.int .i64)).toArray 3 (0, 0))) (hne : gl ≠ g) (h0 : 0 < zs.length) (hl1 : zs.length ≤ 256) :
    Calls Tryd.prog 21 #[.pointer (some ⟨g, 0, none⟩), .slice (some ⟨gl, 0, none⟩) zs.length zs.length] w fun e w' => ∃ x : Int, e = .returned (.int .i64 x) ∧ Hid (x ∈ zs) ∧ Hid (DS w' g B) ∧ Hid (w.grownBy w' (some g)) := by
  obtain ⟨a, L, cap, s, h1, h2, h3, h4, h5⟩ := h
  refine (pick_any g gl a L cap s zs w h2 h3 h1 hz hne h0 hl1).mono ?_
  rintro e w' ⟨rfl, hc, hg⟩
  have hb := belowV_bound L s zs.length (by omega)
  refine ⟨_, rfl, ?_, ⟨a, L, cap, _, h1, hc, h3.kept hg, h4, h5⟩, hg⟩
  show _ ∈ zs
  rw [List.getD_eq_getElem?_getD, List.getElem?_eq_getElem (show (belowV L s zs.length).toNat < zs.length by omega)]
  exact List.getElem_mem ..
theorem own_gr {w w' : World} {B g : Nat} {e : TypeId} {size : Nat} {v : Value} {n : Nat} {xs : List Value} (h : w.ownsRow B e size v n xs) (hg : w.grownBy w' (some g)) (hB : g < B) : w'.ownsRow B e size v n xs := by
  obtain ⟨h1, h2⟩ := h
  refine ⟨h1, ?_⟩
  rcases h2 with h2 | ⟨g', cap, cur, hv, hgB, hh, r⟩
  · exact Or.inl h2
  · exact Or.inr ⟨g', cap, cur, hv, hgB, by rw [hg.block g' ((Array.getElem?_eq_some_iff.1 hh).1) (fun e => by injection e; omega)]; exact hh, r⟩
/-- What is drawn of validators. -/
def Drawn (l : List V) : Prop := l.length ≤ 8 ∧ ∀ v ∈ l, -1 ≤ v.p ∧ v.p ≤ 1001
theorem gr_alloc {a w : World} {r : Option Nat} (h : a.grownBy w r) (o : Obj) : a.grownBy (w.alloc o) r :=
  gr_trans h ⟨rfl, rfl, rfl, by simp, fun k hk _ => Below.heap_alloc w o k hk⟩
set_option maxHeartbeats 800000 in
theorem some_d (g B : Nat) (w : World) (h : DS w g B) (hB : B ≤ w.heap.size) :
    Calls Tryd.prog 36 #[.pointer (some ⟨g, 0, none⟩)] w fun e w' => ∃ (v : Value) (l : List V), e = .returned v ∧ Hid (OwnV w' w.heap.size v l) ∧ Hid (1 ≤ l.length ∧ l.length ≤ 4 ∧ Drawn l) ∧ Hid (DS w' g B) ∧ Hid (w.grownBy w' (some g)) := by
  obtain ⟨i0, hinf, hz0, hz1, hz2⟩ := info33f
  have hgl := h.lt
  have hgw : g < w.heap.size := by omega
  have hb0 : Below w.heap.size w (w.alloc (.cells #[] 39)) := (Below.refl _ _).alloc (Nat.le_refl _) _
  have HD0 : Hid (DS (w.alloc (.cells #[] 39)) g B) := h.below (hb0.mono hB)
  have HO0 : Hid (OwnV (w.alloc (.cells #[] 39)) w.heap.size (.slice (some ⟨w.heap.size, 0, none⟩) 0 0) []) := World.ownsRow_made w #[] 0 (Nat.le_refl _) (by decide) rfl
  have HG0 : Hid (w.grownBy (w.alloc (.cells #[] 39)) (some g)) := gr_alloc (gr_refl _ _) _
  clear h hb0
  go_enter Tryd.func36, Tryd.ntmps36
  go_wp2_with fail
  refine (below_d g B 4 _ HD0.out (by omega)).mono ?_
  rintro e w1 ⟨x, rfl, hx0, hx1, HD1, HG1⟩
  have HO1 : Hid (OwnV w1 w.heap.size (.slice (some ⟨w.heap.size, 0, none⟩) 0 0) []) := own_gr HO0.out HG1.out hgw
  have HG2 : Hid (w.grownBy w1 (some g)) := gr_trans HG0.out HG1.out
  clear HG1 HO0 HD0 HG0
  obtain ⟨t, ht⟩ : ∃ t : Nat, 1 + x = (t : Int) := ⟨(1 + x).toNat, by omega⟩
  have ht1 : 1 ≤ t := by omega
  have ht4 : t ≤ 4 := by omega
  clear hx0 hx1
  go_wp2
  go_loopw [5, 3, 4] (fun nv ov iv wr => ∃ (m : Nat) (q : Value) (l : List V) (id : Int), nv = .int .i64 m ∧ q = ov ∧ iv = .int .i64 id ∧ l.length + m = t ∧ 0 ≤ id ∧ id ≤ 1 + 2 * (l.length : Int) ∧ Hid (OwnV wr w.heap.size q l) ∧ Hid (∀ v ∈ l, -1 ≤ v.p ∧ v.p ≤ 1001) ∧ Hid (DS wr g B) ∧ Hid (w.grownBy wr (some g))) (fun nv _ _ _ => (intOf nv).toNat)
  case atStart => exact ⟨t, _, [], 1, by first | rfl | rw [ht], rfl, rfl, by simp, by omega, by simp, HO1, fun v hv => by simp at hv, HD1, HG2⟩
  case round =>
    clear HO1 HD1 HG2 w1
    obtain ⟨m, q, l, id, rfl, rfl, rfl, hlm, hid0, hid1, HO, HP, HD, HG⟩ := hrel
    by_cases hm : 0 < m
    · have hmz : (0 : Int) < (m : Int) := by omega
      go_wp2_with fail
      refine (below_d g B 5 _ HD.out (by omega)).mono ?_
      rintro e w2 ⟨y, rfl, hy0, hy1, HD2, HG2⟩
      have HO2 : Hid (OwnV (w2.alloc (.cells #[.int .i64 id, .int .i64 (1 + y)] 39)) w.heap.size q l) := World.ownsRow.alloc (own_gr HO.out HG2.out hgw) _
      have HG3 : Hid (w.grownBy w2 (some g)) := gr_trans HG.out HG2.out
      have hs2 : w.heap.size ≤ w2.heap.size := HG3.out.size
      have HC : Hid (_) := one_val w2 ⟨id, 1 + y⟩ w2.heap.size rfl
      clear HG2
      go_wp2_with (at_builtin; refine wpList_append_own _ rfl _ _ 24 rfl w.heap.size 39 i0 (.agg #[.int .i64 0, .int .i64 0]) 2 16 Tryd.underlying24 hinf hz0 hz1 hz2 rfl (by decide) _ _ _ rfl HO2.out ⟨w2.heap.size, 0, none⟩ 1 1 (vals [⟨id, 1 + y⟩]) rfl rfl HC.out (vals_one _) (by unfold maxLen; omega) (by omega) (by simp; omega) ?_)
      intro v' w3 hown' hgrow _
      have hob : ∀ j, q.ownBlock = some j → w.heap.size ≤ j := fun j hj => (HO.out.lt j hj).1
      have HO3 : Hid (OwnV w3 w.heap.size v' (l ++ [⟨id, 1 + y⟩])) := own_snocV hown'
      have HG4 : Hid (w.grownBy w3 (some g)) := grown_fresh (gr_alloc HG3.out _) hgrow hob
      have HD4 : Hid (DS w3 g B) := HD2.out.below ((((Below.refl _ _).alloc (by omega) _)).grown hgrow (by simp; omega) (fun j hj => by have := hob j hj; omega))
      clear hown' hgrow HC HO2 HG3 HD2 hob
      go_wp2_with fail
      refine (below_d g B 2 _ HD4.out (by omega)).mono ?_
      rintro e w4 ⟨z, rfl, hz0', hz1', HD5, HG5⟩
      have HO5 : Hid (OwnV w4 w.heap.size v' (l ++ [⟨id, 1 + y⟩])) := own_gr HO3.out HG5.out hgw
      have HG6 : Hid (w.grownBy w4 (some g)) := gr_trans HG4.out HG5.out
      clear HO3 HG5 HD4 HG4
      go_wp2
      go_roundw
      case rel =>
        have R : ∃ (m' : Nat) (q' : Value) (l' : List V) (id' : Int), Value.int .i64 ((m : Int) - 1) = .int .i64 m' ∧ q' = v' ∧ Value.int .i64 (id + 1 + z) = .int .i64 id' ∧ l'.length + m' = t ∧ 0 ≤ id' ∧ id' ≤ 1 + 2 * (l'.length : Int) ∧ Hid (OwnV w4 w.heap.size q' l') ∧ Hid (∀ v ∈ l', -1 ≤ v.p ∧ v.p ≤ 1001) ∧ Hid (DS w4 g B) ∧ Hid (w.grownBy w4 (some g)) := by
          refine ⟨m - 1, v', l ++ [⟨id, 1 + y⟩], id + 1 + z, by first | go_num | (congr 1; omega), rfl, rfl, by simp; omega, by omega, by simp; omega, HO5, ?_, HD5, HG6⟩
          intro v hv
          rcases List.mem_append.1 hv with hv | hv
          · exact HP.out v hv
          · simp at hv; subst hv; simp; omega
        first | exact R | ((repeat apply Exists.intro); exact ⟨R, rfl⟩)
      case measure => simp [intOf]; omega
    · have hmz : ¬ (0 : Int) < (m : Int) := by omega
      have HL : Hid (1 ≤ l.length ∧ l.length ≤ 4 ∧ Drawn l) := ⟨by omega, by omega, by omega, HP.out⟩
      go_wp2
      go_ret
      exact ⟨_, rfl, l, HO, HL, HD, HG⟩
theorem vals_set_i : ∀ (l : List V) (k : Nat) (x : Int) (hk : k < l.length), (vals l).set (k * 2) (.int .i64 x) = vals (l.set k ⟨x, l[k].p⟩)
  | v :: l, 0, x, _ => by simp [vals]
  | v :: l, k + 1, x, h => by
    have ih := vals_set_i l k x (by simpa using h)
    have e : ∀ (y : V) (m : List V), vals (y :: m) = .int .i64 y.i :: .int .i64 y.p :: vals m := fun _ _ => rfl
    rw [e, show (k + 1) * 2 = (k * 2) + 1 + 1 from by omega, List.set_cons_succ, List.set_cons_succ, ih]
    rfl
theorem vals_set_p : ∀ (l : List V) (k : Nat) (x : Int) (hk : k < l.length), (vals l).set (k * 2 + 1) (.int .i64 x) = vals (l.set k ⟨l[k].i, x⟩)
  | v :: l, 0, x, _ => by simp [vals]
  | v :: l, k + 1, x, h => by
    have ih := vals_set_p l k x (by simpa using h)
    have e : ∀ (y : V) (m : List V), vals (y :: m) = .int .i64 y.i :: .int .i64 y.p :: vals m := fun _ _ => rfl
    rw [e, show (k + 1) * 2 + 1 = (k * 2 + 1) + 1 + 1 from by omega, List.set_cons_succ, List.set_cons_succ, ih]
    rfl
/-- One cell of a row that the call owns is written. -/
theorem own_put {w : World} {B g n cap j : Nat} {xs : List Value} {u : Value} (h : w.ownsRow B 39 2 (.slice (some ⟨g, 0, none⟩) n cap) n xs) (hj : j < n * 2) : (w.setCell ⟨g, j, none⟩ u).ownsRow B 39 2 (.slice (some ⟨g, 0, none⟩) n cap) n (xs.set j u) := by
  obtain ⟨h1, h2⟩ := h
  refine ⟨by rw [List.length_set]; exact h1, ?_⟩
  rcases h2 with ⟨h2, _⟩ | ⟨g', cap', cur, hv, hgB, hh, h3, h4, h5, h6⟩
  · cases h2
  · simp only [Value.slice.injEq, Option.some.injEq, Addr.mk.injEq, and_true, true_and] at hv
    obtain ⟨rfl, rfl⟩ := hv
    refine Or.inr ⟨g, cap, cur.setIfInBounds j u, rfl, hgB, ?_, h3, h4, by rw [Array.size_setIfInBounds]; exact h5, ?_⟩
    · rw [heap_setCell_same w g j _ 39 _ hh]
    · rw [Array.toList_setIfInBounds, List.take_set, h6]
theorem own_seti {w : World} {B g cap k : Nat} {l : List V} {x : Int} (h : OwnV w B (.slice (some ⟨g, 0, none⟩) l.length cap) l) (hk : k < l.length) : OwnV (w.setCell ⟨g, k * 2, none⟩ (.int .i64 x)) B (.slice (some ⟨g, 0, none⟩) l.length cap) (l.set k ⟨x, l[k].p⟩) := by
  have := own_put (u := .int .i64 x) h (show k * 2 < l.length * 2 by omega)
  rw [vals_set_i l k x hk] at this
  unfold OwnV
  rw [List.length_set]; exact this
theorem own_setp {w : World} {B g cap k : Nat} {l : List V} {x : Int} (h : OwnV w B (.slice (some ⟨g, 0, none⟩) l.length cap) l) (hk : k < l.length) : OwnV (w.setCell ⟨g, k * 2 + 1, none⟩ (.int .i64 x)) B (.slice (some ⟨g, 0, none⟩) l.length cap) (l.set k ⟨l[k].i, x⟩) := by
  have := own_put (u := .int .i64 x) h (show k * 2 + 1 < l.length * 2 by omega)
  rw [vals_set_p l k x hk] at this
  unfold OwnV
  rw [List.length_set]; exact this
theorem OwnV.row {w : World} {B : Nat} {v : Value} {l : List V} (h : OwnV w B v l) (h0 : 0 < l.length) : ∃ g cap, v = .slice (some ⟨g, 0, none⟩) l.length cap ∧ B ≤ g ∧ (∀ j, j < l.length * 2 → (w.cell? ⟨g, j, none⟩).isSome = true ∧ w.frozen? ⟨g, j, none⟩ = false) := by
  have h' := h
  rcases h.2 with ⟨rfl, hn⟩ | ⟨g, cap, cur, rfl, hB, hg, hnc, hcm, _⟩
  · omega
  · refine ⟨g, cap, rfl, hB, fun j hj => ⟨?_, h'.frozenAt j⟩⟩
    rw [h'.cellAt j (by omega), List.getElem?_eq_getElem (by rw [vals_length]; exact hj)]; rfl
theorem drawn_set {l : List V} {k : Nat} {v : V} (h : Drawn l) (hv : -1 ≤ v.p ∧ v.p ≤ 1001) : Drawn (l.set k v) := by
  refine ⟨by rw [List.length_set]; exact h.1, fun x hx => ?_⟩
  rcases List.mem_or_eq_of_mem_set hx with hx | hx
  · exact h.2 x hx
  · rw [hx]; exact hv
theorem gr_setnew {a w : World} {g b j : Nat} (h : a.grownBy w (some g)) (hb : a.heap.size ≤ b) (u : Value) : a.grownBy (w.setCell ⟨b, j, none⟩ u) (some g) :=
  grown_fresh h (gr_set w b j u) (fun k e => by injection e with e; omega)
theorem nn_of {w : World} {B : Nat} {v : Value} {l : List V} (h : OwnV w B v l) (h0 : 1 ≤ l.length) : ¬ v = Value.slice none 0 0 := by
  obtain ⟨g, cap, rfl, _⟩ := OwnV.row h h0
  intro e; cases e
set_option maxHeartbeats 1600000 in
theorem any_d (g B : Nat) (w : World) (h : DS w g B) (hB : B ≤ w.heap.size) :
    Calls Tryd.prog 19 #[.pointer (some ⟨g, 0, none⟩)] w fun e w' => ∃ (v : Value) (l : List V), e = .returned v ∧ Hid (OwnV w' w.heap.size v l) ∧ Hid (Drawn l) ∧ Hid (DS w' g B) ∧ Hid (w.grownBy w' (some g)) ∧ Hid (¬ v = Value.slice none 0 0) := by
  obtain ⟨i0, hinf, hz0, hz1, hz2⟩ := info33f
  have hgl := h.lt
  have hgw : g < w.heap.size := by omega
  have HD0 : Hid (DS w g B) := h
  clear h
  go_enter Tryd.func19, Tryd.ntmps19
  go_wp2_with fail
  refine (some_d g B w HD0.out hB).mono ?_
  rintro e w1 ⟨q, l, rfl, HO1, HL1, HD1, HG1⟩
  go_wp2_with fail
  refine (once_d g B 8 w1 HD1.out).mono ?_
  rintro e w2 ⟨t, rfl, HD2, HG2⟩
  have HO2 : Hid (OwnV w2 w.heap.size q l) := own_gr HO1.out HG2.out hgw
  have HG3 : Hid (w.grownBy w2 (some g)) := gr_trans HG1.out HG2.out
  have HDr : Hid (Drawn l) := HL1.out.2.2
  have hl1 := HL1.out.1
  have hl4 := HL1.out.2.1
  clear HG1 HG2 HO1 HD1 HL1 HD0
  rcases t with _ | _
  · go_wp2
    go_ret
    have HNN : Hid (_) := nn_of HO2.out hl1
    first | exact ⟨_, rfl, l, HO2, HDr, HD2, HG3, HNN⟩ | exact ⟨_, l, rfl, HO2, HDr, HD2, HG3, HNN⟩
  obtain ⟨b, cap, rfl, hbB, hrow⟩ := OwnV.row HO2.out (by omega)
  go_wp2_with fail
  refine (below_d g B _ w2 HD2.out (by omega)).mono ?_
  rintro e w3 ⟨kz, rfl, hk0, hk1, HD4, HG4⟩
  obtain ⟨k, rfl⟩ : ∃ k : Nat, kz = (k : Int) := ⟨kz.toNat, by omega⟩
  have hkl : k < l.length := by omega
  have HO4 : Hid (OwnV w3 w.heap.size (.slice (some ⟨b, 0, none⟩) l.length cap) l) := own_gr HO2.out HG4.out hgw
  have HG5 : Hid (w.grownBy w3 (some g)) := gr_trans HG3.out HG4.out
  clear HG4 HG3 HO2 HD2 hrow
  go_wp2_with fail
  refine (below_d g B 4 w3 HD4.out (by omega)).mono ?_
  rintro e w4 ⟨c, rfl, hc0, hc1, HD6, HG6⟩
  have HO6 : Hid (OwnV w4 w.heap.size (.slice (some ⟨b, 0, none⟩) l.length cap) l) := own_gr HO4.out HG6.out hgw
  have HG7 : Hid (w.grownBy w4 (some g)) := gr_trans HG5.out HG6.out
  have hs4 : w.heap.size ≤ w4.heap.size := HG7.out.size
  clear HG6 HG5 HO4 HD4 w2 w3
  rcases (show c = 0 ∨ c = 1 ∨ c = 2 ∨ c = 3 from by omega) with rfl | rfl | rfl | rfl
  · have HZ : Hid ((w4.alloc (.cells #[.int .i64 0, .int .i64 1, .int .i64 99, .int .i64 100] 3)).heap[w4.heap.size]? = some (.cells (([0, 1, 99, 100] : List Int).map (Value.int .i64)).toArray 3 (0, 0))) := heap_alloc_new _ _
    have HD7 : Hid (DS (w4.alloc (.cells #[.int .i64 0, .int .i64 1, .int .i64 99, .int .i64 100] 3)) g B) := HD6.out.below ((Below.refl _ _).alloc (by omega) _)
    have hne : w4.heap.size ≠ g := by omega
    go_wp2_with fail
    refine (pick_d g w4.heap.size B [0, 1, 99, 100] _ HD7.out HZ.out hne (by simp) (by simp)).mono ?_
    rintro e w5 ⟨x, rfl, hx, HD8, HG8⟩
    have HO8 : Hid (OwnV w5 w.heap.size (.slice (some ⟨b, 0, none⟩) l.length cap) l) := own_gr (World.ownsRow.alloc HO6.out _) HG8.out hgw
    have HG9 : Hid (w.grownBy w5 (some g)) := gr_trans (gr_alloc HG7.out _) HG8.out
    obtain ⟨b', cap', e0, _, hrow⟩ := OwnV.row HO8.out (by omega)
    have hbb : b = b' := by simp at e0; exact e0.1
    rw [← hbb] at hrow
    clear e0 hbb
    obtain ⟨s1, f1⟩ := hrow (k * 2) (by omega)
    obtain ⟨u1, e1⟩ := Option.isSome_iff_exists.1 s1
    clear hrow s1
    have HO9 : Hid (_) := own_seti (x := x) HO8.out hkl
    have HDr9 : Hid (Drawn (l.set k ⟨x, l[k].p⟩)) := drawn_set HDr.out (HDr.out.2 l[k] (List.getElem_mem ..))
    have HD9 : Hid (DS (w5.setCell ⟨b, k * 2, none⟩ (.int .i64 x)) g B) := HD8.out.below ((Below.refl _ _).setCell (p := ⟨b, k * 2, none⟩) (by show B ≤ b; omega) _)
    have HG10 : Hid (w.grownBy (w5.setCell ⟨b, k * 2, none⟩ (.int .i64 x)) (some g)) := gr_setnew HG9.out hbB _
    clear HD8 HG9 HO8 HG8 HD7 HZ
    go_wp2
    go_ret
    first | exact ⟨_, rfl, _, HO9, HDr9, HD9, HG10, fun h => by cases h⟩ | exact ⟨_, _, rfl, HO9, HDr9, HD9, HG10, fun h => by cases h⟩
  · have HZ : Hid ((w4.alloc (.cells #[.int .i64 0, .int .i64 1000, .int .i64 1001, .int .i64 (-1)] 3)).heap[w4.heap.size]? = some (.cells (([0, 1000, 1001, -1] : List Int).map (Value.int .i64)).toArray 3 (0, 0))) := heap_alloc_new _ _
    have HD7 : Hid (DS (w4.alloc (.cells #[.int .i64 0, .int .i64 1000, .int .i64 1001, .int .i64 (-1)] 3)) g B) := HD6.out.below ((Below.refl _ _).alloc (by omega) _)
    have hne : w4.heap.size ≠ g := by omega
    go_wp2_with fail
    refine (pick_d g w4.heap.size B [0, 1000, 1001, -1] _ HD7.out HZ.out hne (by simp) (by simp)).mono ?_
    rintro e w5 ⟨x, rfl, hx, HD8, HG8⟩
    have HO8 : Hid (OwnV w5 w.heap.size (.slice (some ⟨b, 0, none⟩) l.length cap) l) := own_gr (World.ownsRow.alloc HO6.out _) HG8.out hgw
    have HG9 : Hid (w.grownBy w5 (some g)) := gr_trans (gr_alloc HG7.out _) HG8.out
    obtain ⟨b', cap', e0, _, hrow⟩ := OwnV.row HO8.out (by omega)
    have hbb : b = b' := by simp at e0; exact e0.1
    rw [← hbb] at hrow
    clear e0 hbb
    obtain ⟨s1, f1⟩ := hrow (k * 2 + 1) (by omega)
    obtain ⟨u1, e1⟩ := Option.isSome_iff_exists.1 s1
    clear hrow s1
    have HO9 : Hid (_) := own_setp (x := x) HO8.out hkl
    have HDr9 : Hid (Drawn (l.set k ⟨l[k].i, x⟩)) := drawn_set HDr.out (by have := hx.out; simp at this; simp only; omega)
    have HD9 : Hid (DS (w5.setCell ⟨b, k * 2 + 1, none⟩ (.int .i64 x)) g B) := HD8.out.below ((Below.refl _ _).setCell (p := ⟨b, k * 2 + 1, none⟩) (by show B ≤ b; omega) _)
    have HG10 : Hid (w.grownBy (w5.setCell ⟨b, k * 2 + 1, none⟩ (.int .i64 x)) (some g)) := gr_setnew HG9.out hbB _
    clear HD8 HG9 HO8 HG8 HD7 HZ
    go_wp2
    go_ret
    first | exact ⟨_, rfl, _, HO9, HDr9, HD9, HG10, fun h => by cases h⟩ | exact ⟨_, _, rfl, HO9, HDr9, HD9, HG10, fun h => by cases h⟩
  · go_wp2
    go_ret
    have HO9 : Hid (OwnV (w4.alloc (.cells #[] 39)) w.heap.size (.slice (some ⟨w4.heap.size, 0, none⟩) 0 0) []) := own_none w w4 _ hs4
    have HDr9 : Hid (Drawn []) := ⟨by simp, fun v hv => by simp at hv⟩
    have HD9 : Hid (DS (w4.alloc (.cells #[] 39)) g B) := HD6.out.below ((Below.refl _ _).alloc (by omega) _)
    have HG10 : Hid (w.grownBy (w4.alloc (.cells #[] 39)) (some g)) := gr_alloc HG7.out _
    first | exact ⟨_, rfl, _, HO9, HDr9, HD9, HG10, fun h => by cases h⟩ | exact ⟨_, _, rfl, HO9, HDr9, HD9, HG10, fun h => by cases h⟩
  · go_wp2
    go_loopw [3, 5] (fun ov iv wr => ∃ (q : Value) (l : List V) (n : Nat), q = ov ∧ iv = .int .i64 ((20 : Int) + (n : Int)) ∧ n ≤ 8 ∧ l.length ≤ 8 ∧ n ≤ l.length ∧ 1 ≤ l.length ∧ Hid (OwnV wr w.heap.size q l) ∧ Hid (∀ v ∈ l, -1 ≤ v.p ∧ v.p ≤ 1001) ∧ Hid (DS wr g B) ∧ Hid (w.grownBy wr (some g))) (fun _ iv _ => 30 - (intOf iv).toNat)
    case atStart => exact ⟨_, l, 0, rfl, rfl, by omega, by omega, by omega, hl1, HO6, HDr.out.2, HD6, HG7⟩
    case round =>
      clear HO6 HDr HD6 HG7 hs4 hkl hk0 hk1 hl1 hl4
      obtain ⟨q, l, n, rfl, rfl, hn8, hl8, hnl, hl1, HO, HP, HD, HG⟩ := hrel
      obtain ⟨a2, cap2, rfl, _, _, _⟩ := OwnV.o HO.out
      go_wp2_with fail
      refine (below_d g B 2 _ HD.out (by omega)).mono ?_
      rintro e w6 ⟨y, rfl, hy0, hy1, HD2, HG2⟩
      have HO2 : Hid (OwnV w6 w.heap.size (.slice a2 l.length cap2) l) := own_gr HO.out HG2.out hgw
      have HG3 : Hid (w.grownBy w6 (some g)) := gr_trans HG.out HG2.out
      have hs6 : w.heap.size ≤ w6.heap.size := HG3.out.size
      clear HO HG HG2 HD
      by_cases hlt : (l.length : Int) < 7 + y
      · have HO4 : Hid (OwnV (w6.alloc (.cells #[.int .i64 ((20 : Int) + (n : Int)), .int .i64 1] 39)) w.heap.size (.slice a2 l.length cap2) l) := World.ownsRow.alloc HO2.out _
        have HC : Hid (_) := one_val w6 ⟨(20 : Int) + (n : Int), 1⟩ w6.heap.size rfl
        go_wp2_with (at_builtin; refine wpList_append_own _ rfl _ _ 24 rfl w.heap.size 39 i0 (.agg #[.int .i64 0, .int .i64 0]) 2 16 Tryd.underlying24 hinf hz0 hz1 hz2 rfl (by decide) _ _ _ rfl HO4.out ⟨w6.heap.size, 0, none⟩ 1 1 (vals [⟨(20 : Int) + (n : Int), 1⟩]) rfl rfl HC.out (vals_one _) (by unfold maxLen; omega) (by omega) (by simp; omega) ?_)
        intro v' w7 hown' hgrow _
        have hob : ∀ j, (Value.slice a2 l.length cap2).ownBlock = some j → w.heap.size ≤ j := fun j hj => (HO2.out.lt j hj).1
        have HO5 : Hid (OwnV w7 w.heap.size v' (l ++ [⟨(20 : Int) + (n : Int), 1⟩])) := own_snocV hown'
        have HG5 : Hid (w.grownBy w7 (some g)) := grown_fresh (gr_alloc HG3.out _) hgrow hob
        have HD5 : Hid (DS w7 g B) := HD2.out.below ((((Below.refl _ _).alloc (by omega) _)).grown hgrow (by simp; omega) (fun j hj => by have := hob j hj; omega))
        clear hown' hgrow HC HO4 HO2 HG3 HD2 hob
        go_wp2
        go_roundw
        case rel =>
          have R : ∃ (q' : Value) (l' : List V) (n' : Nat), q' = v' ∧ Value.int .i64 ((20 : Int) + (n : Int) + 1) = .int .i64 ((20 : Int) + (n' : Int)) ∧ n' ≤ 8 ∧ l'.length ≤ 8 ∧ n' ≤ l'.length ∧ 1 ≤ l'.length ∧ Hid (OwnV w7 w.heap.size q' l') ∧ Hid (∀ v ∈ l', -1 ≤ v.p ∧ v.p ≤ 1001) ∧ Hid (DS w7 g B) ∧ Hid (w.grownBy w7 (some g)) := by
            refine ⟨v', l ++ [⟨(20 : Int) + (n : Int), 1⟩], n + 1, rfl, by first | go_num | (congr 1; omega), by omega, by simp; omega, by simp; omega, by simp, HO5, ?_, HD5, HG5⟩
            intro v hv
            rcases List.mem_append.1 hv with hv | hv
            · exact HP.out v hv
            · simp at hv; subst hv; simp
          first | exact R | ((repeat apply Exists.intro); exact ⟨R, rfl⟩)
        case measure => simp [intOf]; omega
      · have HL : Hid (Drawn l) := ⟨hl8, HP.out⟩
        go_wp2
        go_ret
        have HNN : Hid (_) := nn_of HO2.out hl1
        first | exact ⟨_, rfl, _, HO2, HL, HD2, HG3, HNN⟩ | exact ⟨_, _, rfl, HO2, HL, HD2, HG3, HNN⟩
end Go.Proofs.YtaeokecodejpdaaDoor
