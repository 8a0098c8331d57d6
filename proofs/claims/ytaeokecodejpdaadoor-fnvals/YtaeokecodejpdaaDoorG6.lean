/- What spec.DrawEnough, laws.fresh, laws.has and laws.big answer, as far as FnEnough asks; old memory stays. Conditions: a code of at most 2 to the 20 bytes. What spec.DrawChangeVals answers, as far as FnVals asks; old memory stays. Conditions: a code of at most 2 to the 20 bytes. What laws.fresh, laws.has and laws.big answer, as far as FnEnough asks; old memory stays. Conditions: a code of at most 2 to the 20 bytes. -/
import Derived.Test.YtaeokecodejpdaaDoorDw
namespace Go.Proofs.YtaeokecodejpdaaDoor
open Go.RowKit
open Num
set_option linter.unusedVariables false
/-- A row of validators stands while another row, of numbers, grows. -/
theorem own_otherV {w w' : World} {B B' : Nat} {v q : Value} {xs : List Int} {l : List V} (h : OwnV w B v l) (hq : OwnI w B' q xs) (hg : w.grownBy w' q.ownBlock) : OwnV w' B v l := by
  obtain ⟨h1, h2⟩ := h
  refine ⟨h1, ?_⟩
  rcases h2 with h2 | ⟨g, cap, cur, hv, hgB, hh, r⟩
  · exact Or.inl h2
  · refine Or.inr ⟨g, cap, cur, hv, hgB, ?_, r⟩
    rw [hg.block g ((Array.getElem?_eq_some_iff.1 hh).1) ?_]
    · exact hh
    · intro e
      rcases hq.2 with ⟨hq1, _⟩ | ⟨g', cap', cur', hq1, _, hh', _⟩
      · rw [hq1] at e; cases e
      · rw [hq1] at e
        simp [Value.ownBlock] at e
        subst e
        rw [hh] at hh'
        simp at hh'
/-- A row of validators stands while the cursor is written: the cursor's block holds something else. -/
theorem own_gr' {w w' : World} {B B' g : Nat} {v : Value} {l : List V} (h : OwnV w B v l) (hd : DS w g B') (hg : w.grownBy w' (some g)) : OwnV w' B v l := by
  obtain ⟨h1, h2⟩ := h
  obtain ⟨a, L, cap, s, _, hc, _⟩ := hd
  refine ⟨h1, ?_⟩
  rcases h2 with h2 | ⟨g', cap', cur, hv, hgB, hh, r⟩
  · exact Or.inl h2
  · refine Or.inr ⟨g', cap', cur, hv, hgB, ?_, r⟩
    rw [hg.block g' ((Array.getElem?_eq_some_iff.1 hh).1) ?_]
    · exact hh
    · intro e
      injection e with e
      subst e
      unfold CurAt at hc
      rw [hh] at hc
      simp at hc
theorem ds_new {w : World} {a : Option Addr} {L : List UInt8} {cap : Nat} (hl : CodeAt w w.heap.size a L) (hlen : L.length ≤ 1048576) (h : Int) : DS (w.alloc (.cells #[.slice a L.length cap, .int .i64 0, .int .i64 h] 61)) w.heap.size (w.heap.size + 1) := by
  refine ⟨a, L, cap, ⟨0, h⟩, hlen, heap_alloc_new _ _, fun j hj => ?_, Nat.lt_succ_self _, fun j hj => ?_⟩
  · obtain ⟨b, off, e, hne, hc⟩ := hl j hj
    have hlt : b < w.heap.size := World.block_lt_of_cell? w _ hc
    refine ⟨b, off, e, hne, ?_⟩
    rw [World.cell?_of_block (w := w) (a := ⟨b, off + j, none⟩) (Below.heap_alloc w _ b hlt)]; exact hc
  · obtain ⟨b, off, e, hne, hc⟩ := hl j hj
    have hlt : b < w.heap.size := World.block_lt_of_cell? w _ hc
    exact ⟨b, off, e, Nat.lt_succ_of_lt hlt⟩
end Go.Proofs.YtaeokecodejpdaaDoor
namespace Go.Proofs.YtaeokecodejpdaaDoor
open Go.RowKit
open Num
set_option linter.unusedVariables false
/-- A row stands while another block is written. -/
theorem own_far {w w' : World} {B : Nat} {v : Value} {l : List V} {r : Option Nat} (h : OwnV w B v l) (hg : w.grownBy w' r) (hr : ∀ j, v.ownBlock = some j → r ≠ some j) : OwnV w' B v l := by
  obtain ⟨h1, h2⟩ := h
  refine ⟨h1, ?_⟩
  rcases h2 with h2 | ⟨g, cap, cur, rfl, hgB, hh, r'⟩
  · exact Or.inl h2
  · exact Or.inr ⟨g, cap, cur, rfl, hgB, by rw [hg.block g ((Array.getElem?_eq_some_iff.1 hh).1) (fun e => hr g rfl e.symm)]; exact hh, r'⟩
set_option maxHeartbeats 1600000 in
theorem draw_change (a : Option Addr) (L : List UInt8) (cap : Nat) (w : World) (hl : CodeAt w w.heap.size a L) (hlen : L.length ≤ 1048576) :
    Calls Tryd.prog 5 #[.slice a L.length cap] w fun e w' => ∃ (v u : Value) (l x : List V), e = .returned (.tuple #[v, u]) ∧ Hid (OwnV w' w.heap.size v l) ∧ Hid (Drawn l) ∧ Hid (OwnV w' w.heap.size u x) ∧ Hid (x.length ≤ 3 ∧ ¬ v = Value.slice none 0 0 ∧ ¬ u = Value.slice none 0 0) ∧ Hid (Below w.heap.size w w') := by
  obtain ⟨i0, hinf, hz0, hz1, hz2⟩ := info33f
  have kN := new_any a L cap w hl hlen
  have HD0 : Hid (DS (w.alloc (.cells #[.slice a L.length cap, .int .i64 0, .int .i64 (newF L)] 61)) w.heap.size (w.heap.size + 1)) := ds_new hl hlen _
  have HB0 : Hid (Below w.heap.size w (w.alloc (.cells #[.slice a L.length cap, .int .i64 0, .int .i64 (newF L)] 61))) := (Below.refl _ _).alloc (Nat.le_refl _) _
  have hs0 : (w.alloc (.cells #[.slice a L.length cap, .int .i64 0, .int .i64 (newF L)] 61)).heap.size = w.heap.size + 1 := by simp
  clear hl
  generalize w.alloc (.cells #[.slice a L.length cap, .int .i64 0, .int .i64 (newF L)] 61) = wa at *
  go_enter Tryd.func5, Tryd.ntmps5
  go_wp2_with fail
  refine kN.mono ?_
  rintro e w1 ⟨rfl, rfl⟩
  go_wp2_with fail
  refine (any_d w.heap.size (w.heap.size + 1) w1 HD0.out (by omega)).mono ?_
  rintro e w2 ⟨v, l, rfl, HO2, HDr, HD2, HG2, HNV⟩
  have HB2 : Hid (Below w.heap.size w w2) := HB0.out.grown HG2.out (by omega) (fun k e => by injection e; omega)
  have HO2' : Hid (OwnV w2 w.heap.size v l) := own_less HO2.out (by omega)
  have hs2 : w.heap.size < w2.heap.size := HD2.out.lt'
  have HVB : Hid (∀ j, v.ownBlock = some j → j < w2.heap.size ∧ w.heap.size < j) := fun j hj => by have := HO2.out.lt j hj; omega
  clear HO2 HG2 HD0 HB0 hs0 kN
  have HD3 : Hid (DS (w2.alloc (.cells #[] 39)) w.heap.size (w.heap.size + 1)) := HD2.out.below ((Below.refl _ _).alloc (by omega) _)
  have HO3 : Hid (OwnV (w2.alloc (.cells #[] 39)) w.heap.size v l) := World.ownsRow.alloc HO2'.out _
  have HX3 : Hid (OwnV (w2.alloc (.cells #[] 39)) w2.heap.size (.slice (some ⟨w2.heap.size, 0, none⟩) 0 0) []) := World.ownsRow_made w2 #[] 0 (Nat.le_refl _) (by decide) rfl
  have HB3 : Hid (Below w.heap.size w (w2.alloc (.cells #[] 39))) := HB2.out.alloc HB2.out.size _
  have hs3 : w2.heap.size ≤ (w2.alloc (.cells #[] 39)).heap.size := by simp
  clear HO2' HD2 HB2
  go_wp2_with fail
  refine (below_d w.heap.size (w.heap.size + 1) 4 _ HD3.out (by omega)).mono ?_
  rintro e w4 ⟨m, rfl, hm0, hm1, HD4, HG4⟩
  have HO4 : Hid (OwnV w4 w.heap.size v l) := own_gr' HO3.out HD3.out HG4.out
  have HX4 : Hid (OwnV w4 w2.heap.size (.slice (some ⟨w2.heap.size, 0, none⟩) 0 0) []) := own_gr HX3.out HG4.out (by omega)
  have HB4 : Hid (Below w.heap.size w w4) := HB3.out.grown HG4.out (by have := HB3.out.size; omega) (fun k e => by injection e; omega)
  have hs4 : w2.heap.size ≤ w4.heap.size := Nat.le_trans hs3 HG4.out.size
  obtain ⟨t, rfl⟩ : ∃ t : Nat, m = (t : Int) := ⟨m.toNat, by omega⟩
  have ht : t ≤ 3 := by omega
  clear HO3 HX3 HB3 HD3 HG4 hs3 hm0 hm1
  go_wp2_with fail
  go_loopw [7, 6] (fun nv ov wr => ∃ (m : Nat) (q : Value) (x : List V), nv = .int .i64 m ∧ q = ov ∧ x.length + m = t ∧ w2.heap.size ≤ wr.heap.size ∧ Hid (¬ q = Value.slice none 0 0) ∧ Hid (OwnV wr w.heap.size v l) ∧ Hid (OwnV wr w2.heap.size q x) ∧ Hid (DS wr w.heap.size (w.heap.size + 1)) ∧ Hid (Below w.heap.size w wr)) (fun nv _ _ => (intOf nv).toNat)
  case atStart => exact ⟨t, _, [], rfl, rfl, by simp, hs4, (fun h => by cases h), HO4, HX4, HD4, HB4⟩
  case round =>
    clear HO4 HX4 HD4 HB4 hs4
    obtain ⟨m, q, x, rfl, rfl, hxm, hsr, HNQ, HO, HX, HD, HB⟩ := hrel
    by_cases hm : 0 < m
    · have hmz : (0 : Int) < (m : Int) := by omega
      go_wp2_with fail
      refine (below_d w.heap.size (w.heap.size + 1) 8 _ HD.out (by omega)).mono ?_
      rintro e w5 ⟨y, rfl, hy0, hy1, HD5, HG5⟩
      have HO5 : Hid (OwnV (w5.alloc (.cells #[.int .i64 0, .int .i64 1, .int .i64 5, .int .i64 1000, .int .i64 1001] 3)) w.heap.size v l) := World.ownsRow.alloc (own_gr' HO.out HD.out HG5.out) _
      have HX5 : Hid (OwnV (w5.alloc (.cells #[.int .i64 0, .int .i64 1, .int .i64 5, .int .i64 1000, .int .i64 1001] 3)) w2.heap.size q x) := World.ownsRow.alloc (own_gr HX.out HG5.out (by omega)) _
      have HB5 : Hid (Below w.heap.size w (w5.alloc (.cells #[.int .i64 0, .int .i64 1, .int .i64 5, .int .i64 1000, .int .i64 1001] 3))) := by
        have h1 : Below w.heap.size w w5 := HB.out.grown HG5.out (by omega) (fun k e => by injection e; omega)
        exact h1.alloc h1.size _
      have hs5 : w2.heap.size ≤ w5.heap.size := Nat.le_trans hsr HG5.out.size
      have HZ : Hid ((w5.alloc (.cells #[.int .i64 0, .int .i64 1, .int .i64 5, .int .i64 1000, .int .i64 1001] 3)).heap[w5.heap.size]? = some (.cells (([0, 1, 5, 1000, 1001] : List Int).map (Value.int .i64)).toArray 3 (0, 0))) := heap_alloc_new _ _
      have HD6 : Hid (DS (w5.alloc (.cells #[.int .i64 0, .int .i64 1, .int .i64 5, .int .i64 1000, .int .i64 1001] 3)) w.heap.size (w.heap.size + 1)) := HD5.out.below ((Below.refl _ _).alloc (by omega) _)
      have hne : w5.heap.size ≠ w.heap.size := by omega
      clear HO HX HB HD HG5 HD5
      go_wp2_with fail
      refine (pick_d w.heap.size w5.heap.size (w.heap.size + 1) [0, 1, 5, 1000, 1001] _ HD6.out HZ.out hne (by simp) (by simp)).mono ?_
      rintro e w6 ⟨p, rfl, hp, HD7, HG7⟩
      have HO7 : Hid (OwnV (w6.alloc (.cells #[.int .i64 (1 + y), .int .i64 p] 39)) w.heap.size v l) := World.ownsRow.alloc (own_gr' HO5.out HD6.out HG7.out) _
      have HX7 : Hid (OwnV (w6.alloc (.cells #[.int .i64 (1 + y), .int .i64 p] 39)) w2.heap.size q x) := World.ownsRow.alloc (own_gr HX5.out HG7.out (by omega)) _
      have hs6 : w2.heap.size ≤ w6.heap.size := by have := HG7.out.size; simp at this; omega
      have HB7 : Hid (Below w.heap.size w (w6.alloc (.cells #[.int .i64 (1 + y), .int .i64 p] 39))) := by
        have h1 : Below w.heap.size w w6 := HB5.out.grown HG7.out HB5.out.size (fun k e => by injection e; omega)
        exact h1.alloc h1.size _
      have HC : Hid (_) := one_val w6 ⟨1 + y, p⟩ w6.heap.size rfl
      have hp1 : 0 ≤ p ∧ p ≤ 1001 := by have := hp.out; simp at this; omega
      clear HO5 HX5 HB5 HD6 HZ HG7 hp
      go_wp2_with (at_builtin; refine wpList_append_own _ rfl _ _ 24 rfl w2.heap.size 39 i0 (.agg #[.int .i64 0, .int .i64 0]) 2 16 Tryd.underlying24 hinf hz0 hz1 hz2 rfl (by decide) _ _ _ rfl HX7.out ⟨w6.heap.size, 0, none⟩ 1 1 (vals [⟨1 + y, p⟩]) rfl rfl HC.out (vals_one _) (by unfold maxLen; omega) (by omega) (by simp; omega) ?_)
      intro v' w7 hown' hgrow hnn
      have HNN : Hid (¬ v' = Value.slice none 0 0) := fun e => HNQ.out (by have := hnn; simp_all)
      have hob : ∀ j, q.ownBlock = some j → w2.heap.size ≤ j := fun j hj => (HX7.out.lt j hj).1
      have HX8 : Hid (OwnV w7 w2.heap.size v' (x ++ [⟨1 + y, p⟩])) := own_snocV hown'
      have HO8 : Hid (OwnV w7 w.heap.size v l) := own_far HO7.out hgrow (fun j hj e => by have := hob j e; have := HVB.out j hj; omega)
      have HB8 : Hid (Below w.heap.size w w7) := HB7.out.grown hgrow HB7.out.size (fun j hj => by have := hob j hj; omega)
      have HD8 : Hid (DS w7 w.heap.size (w.heap.size + 1)) := HD7.out.below ((((Below.refl _ _).alloc (by omega) _)).grown hgrow (by simp; omega) (fun j hj => by have := hob j hj; omega))
      have hs7 : w2.heap.size ≤ w7.heap.size := by have := hgrow.size; simp at this; omega
      clear hown' hgrow hnn HC HO7 HX7 HB7 HD7 hob
      go_wp2
      go_roundw
      case rel =>
        have R : ∃ (m' : Nat) (q' : Value) (x' : List V), Value.int .i64 ((m : Int) - 1) = .int .i64 m' ∧ q' = v' ∧ x'.length + m' = t ∧ w2.heap.size ≤ w7.heap.size ∧ Hid (¬ q' = Value.slice none 0 0) ∧ Hid (OwnV w7 w.heap.size v l) ∧ Hid (OwnV w7 w2.heap.size q' x') ∧ Hid (DS w7 w.heap.size (w.heap.size + 1)) ∧ Hid (Below w.heap.size w w7) := ⟨m - 1, v', x ++ [⟨1 + y, p⟩], by congr 1; omega, rfl, by simp; omega, hs7, HNN, HO8, HX8, HD8, HB8⟩
        first | exact R | ((repeat apply Exists.intro); exact ⟨R, rfl⟩)
      case measure => simp [intOf]; omega
    · have hmz : ¬ (0 : Int) < (m : Int) := by omega
      have HX9 : Hid (OwnV wr w.heap.size q x) := own_less HX.out (by omega)
      have HF : Hid (x.length ≤ 3 ∧ ¬ v = Value.slice none 0 0 ∧ ¬ q = Value.slice none 0 0) := ⟨by omega, HNV.out, HNQ.out⟩
      go_wp2
      go_ret2
      first | exact ⟨_, _, rfl, l, HO, HDr, x, HX9, HF, HB⟩ | exact ⟨_, _, l, x, rfl, HO, HDr, HX9, HF, HB⟩
end Go.Proofs.YtaeokecodejpdaaDoor
namespace Go.Proofs.YtaeokecodejpdaaDoor
open Go.RowKit
open Num
set_option linter.unusedVariables false
theorem info5g : ∃ i, Tryd.prog.info? 5 = some i ∧ i.zero = some (.int .u8 0) ∧ i.size = 1 ∧ i.bytes = 1 :=
  info_parts (by kernel_rfl)
set_option maxHeartbeats 400000 in
theorem big_any (a : Option Addr) (len cap : Nat) (w : World) (hm : len ≤ 9223372036854775807) :
    Calls Tryd.prog 4 #[.slice a len cap] w fun e w' => e = .returned (.bool (decide ((1048576 : Int) < (len : Int)))) ∧ w' = w := by
  go_enter Tryd.func4, Tryd.ntmps4
  go_wp2
  go_ret
  exact ⟨rfl, rfl⟩
theorem code_below {w w' : World} {a : Option Addr} {L : List UInt8} (h : CodeAt w w.heap.size a L) (hb : Below w.heap.size w w') : CodeAt w' w'.heap.size a L := by
  intro j hj
  obtain ⟨b, off, ha, hne, hc⟩ := h j hj
  have hlt : b < w.heap.size := World.block_lt_of_cell? w _ hc
  exact ⟨b, off, ha, by have := hb.size; omega, by rw [hb.cell (p := ⟨b, off + j, none⟩) hlt]; exact hc⟩
set_option maxHeartbeats 400000 in
theorem laws_has (a : Option Addr) (l : List Int) (cap : Nat) (x : Int) (w : World) (hl : Nums w a l) (hlen : l.length ≤ 9223372036854775807) :
    Calls Tryd.prog 16 #[.slice a l.length cap, .int .i64 x] w fun e w' => e = .returned (.bool (hasI l x)) ∧ w' = w := by
  have HL : Hid (Nums w a l) := hl
  clear hl
  go_enter Tryd.func16, Tryd.ntmps16
  go_wp2
  go_loop [5] (fun iv => ∃ k : Nat, k ≤ l.length ∧ iv = .int .i64 k ∧ Hid (hasI (l.take k) x = false)) (fun iv => l.length - (intOf iv).toNat)
  case atStart => exact ⟨0, Nat.zero_le _, rfl, by show _ = _; simp [hasI]⟩
  case round =>
    obtain ⟨k, hk, rfl, HA⟩ := hrel
    by_cases hlt : k < l.length
    · have hltz : (k : Int) < (l.length : Int) := by omega
      rcases HL.out with h0 | ⟨b, o, rfl, hv0⟩
      · omega
      have c1 := hv0 k hlt
      obtain ⟨v, hvE⟩ : ∃ v, l[k] = v := ⟨_, rfl⟩
      rw [hvE] at c1
      by_cases he : v = x
      · have HF : Hid (hasI l x = true) := contains_at hlt (hvE.trans he)
        clear hvE hv0
        go_wp2
        go_ret
        exact ⟨by rw [HF.out]; rfl, rfl⟩
      · have HN : Hid (hasI (l.take (k + 1)) x = false) := contains_snoc hlt HA.out (by rw [hvE]; exact he)
        clear hvE hv0
        go_wp2
        go_round
        case rel => exact ⟨k + 1, by omega, by go_num, HN⟩
        case measure => simp [intOf]; omega
    · have hltz : ¬ (k : Int) < (l.length : Int) := by omega
      have HF : Hid (hasI l x = false) := contains_take_all HA.out (by omega)
      go_wp2
      go_ret
      exact ⟨by rw [HF.out]; rfl, rfl⟩
end Go.Proofs.YtaeokecodejpdaaDoor
