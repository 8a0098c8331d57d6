/- What spec.DrawEnough, laws.fresh, laws.has and laws.big answer, as far as FnEnough asks; old memory stays. Conditions: a code of at most 2 to the 20 bytes. -/
import Derived.Test.YtpieapinofojdaaDw
namespace Go.Proofs.Ytpieapinofojdaa
open Go.RowKit
open Num
set_option linter.unusedVariables false
/-- A row of validators stands while another row, of numbers, grows. -/
theorem own_otherV {w w' : World} {B B' : Nat} {v q : Value} {xs : List Int} {l : List V} (h : OwnV w B v l) (hq : OwnI w B' q xs) (hg : w.grownBy w' q.ownBlock) : OwnV w' B v l := by
  obtain ⟨h1, h2⟩ := h
  refine ⟨h1, ?_⟩
  rcases h2 with h2 | ⟨g, cap, cur, hv, hgB, hh, r⟩
  · exact Or.inl h2
  · refine Or.inr ⟨g, cap, cur, hv, hgB, ?_, r⟩
    rw [hg.block g ((Array.getElem?_eq_some_iff.1 hh).1) ?_]
    · exact hh
    · intro e
      rcases hq.2 with ⟨hq1, _⟩ | ⟨g', cap', cur', hq1, _, hh', _⟩
      · rw [hq1] at e; cases e
      · rw [hq1] at e
        simp [Value.ownBlock] at e
        subst e
        rw [hh] at hh'
        simp at hh'
/-- A row of validators stands while the cursor is written: the cursor's block holds something else. -/
theorem own_gr' {w w' : World} {B B' g : Nat} {v : Value} {l : List V} (h : OwnV w B v l) (hd : DS w g B') (hg : w.grownBy w' (some g)) : OwnV w' B v l := by
  obtain ⟨h1, h2⟩ := h
  obtain ⟨a, L, cap, s, _, hc, _⟩ := hd
  refine ⟨h1, ?_⟩
  rcases h2 with h2 | ⟨g', cap', cur, hv, hgB, hh, r⟩
  · exact Or.inl h2
  · refine Or.inr ⟨g', cap', cur, hv, hgB, ?_, r⟩
    rw [hg.block g' ((Array.getElem?_eq_some_iff.1 hh).1) ?_]
    · exact hh
    · intro e
      injection e with e
      subst e
      unfold CurAt at hc
      rw [hh] at hc
      simp at hc
theorem ds_new {w : World} {a : Option Addr} {L : List UInt8} {cap : Nat} (hl : CodeAt w w.heap.size a L) (hlen : L.length ≤ 1048576) (h : Int) : DS (w.alloc (.cells #[.slice a L.length cap, .int .i64 0, .int .i64 h] 74)) w.heap.size (w.heap.size + 1) := by
  refine ⟨a, L, cap, ⟨0, h⟩, hlen, heap_alloc_new _ _, fun j hj => ?_, Nat.lt_succ_self _, fun j hj => ?_⟩
  · obtain ⟨b, off, e, hne, hc⟩ := hl j hj
    have hlt : b < w.heap.size := World.block_lt_of_cell? w _ hc
    refine ⟨b, off, e, hne, ?_⟩
    rw [World.cell?_of_block (w := w) (a := ⟨b, off + j, none⟩) (Below.heap_alloc w _ b hlt)]; exact hc
  · obtain ⟨b, off, e, hne, hc⟩ := hl j hj
    have hlt : b < w.heap.size := World.block_lt_of_cell? w _ hc
    exact ⟨b, off, e, Nat.lt_succ_of_lt hlt⟩
set_option maxHeartbeats 1600000 in
theorem draw_enough (a : Option Addr) (L : List UInt8) (cap : Nat) (w : World) (hl : CodeAt w w.heap.size a L) (hlen : L.length ≤ 1048576) :
    Calls Try.prog 12 #[.slice a L.length cap] w fun e w' => ∃ (v u : Value) (l : List V) (ids : List Int), e = .returned (.tuple #[v, u]) ∧ Hid (OwnV w' w.heap.size v l) ∧ Hid (Drawn l) ∧ Hid (OwnI w' w.heap.size u ids) ∧ Hid (ids.length ≤ 11 ∧ ¬ u = Value.slice none 0 0) ∧ Hid (Below w.heap.size w w') := by
  obtain ⟨i0, hinf, hz0, hz1, hz2⟩ := info3f
  have kN := new_any a L cap w hl hlen
  have HD0 : Hid (DS (w.alloc (.cells #[.slice a L.length cap, .int .i64 0, .int .i64 (newF L)] 74)) w.heap.size (w.heap.size + 1)) := ds_new hl hlen _
  have HB0 : Hid (Below w.heap.size w (w.alloc (.cells #[.slice a L.length cap, .int .i64 0, .int .i64 (newF L)] 74))) := (Below.refl _ _).alloc (Nat.le_refl _) _
  have hs0 : (w.alloc (.cells #[.slice a L.length cap, .int .i64 0, .int .i64 (newF L)] 74)).heap.size = w.heap.size + 1 := by simp
  clear hl
  generalize w.alloc (.cells #[.slice a L.length cap, .int .i64 0, .int .i64 (newF L)] 74) = wa at *
  go_enter Try.func12, Try.ntmps12
  go_wp2_with fail
  refine kN.mono ?_
  rintro e w1 ⟨rfl, rfl⟩
  go_wp2_with fail
  refine (any_d w.heap.size (w.heap.size + 1) w1 HD0.out (by omega)).mono ?_
  rintro e w2 ⟨v, l, rfl, HO2, HDr, HD2, HG2⟩
  have HB2 : Hid (Below w.heap.size w w2) := HB0.out.grown HG2.out (by omega) (fun k e => by injection e; omega)
  have HO2' : Hid (OwnV w2 w.heap.size v l) := own_mono HO2.out (by omega)
  have hs2 : w.heap.size < w2.heap.size := HD2.out.lt'
  have hl8 : l.length ≤ 8 := HDr.out.1
  clear HO2 HG2 HD0 HB0 hs0 kN
  have HD3 : Hid (DS (w2.alloc (.cells #[] 3)) w.heap.size (w.heap.size + 1)) := HD2.out.below ((Below.refl _ _).alloc (by omega) _)
  have HO3 : Hid (OwnV (w2.alloc (.cells #[] 3)) w.heap.size v l) := World.ownsRow.alloc HO2'.out _
  have HI3 : Hid (OwnI (w2.alloc (.cells #[] 3)) (w.heap.size + 1) (.slice (some ⟨w2.heap.size, 0, none⟩) 0 0) []) := World.ownsRow_made w2 #[] 0 (by omega) (by decide) rfl
  have HB3 : Hid (Below w.heap.size w (w2.alloc (.cells #[] 3))) := HB2.out.alloc HB2.out.size _
  obtain ⟨av, capv, rfl, hvo, _, _⟩ := OwnV.o HO2'.out
  clear hvo
  go_wp2
  go_loopw [7, 6] (fun iv ov wr => ∃ (k : Nat) (q : Value) (ids : List Int), k ≤ l.length ∧ iv = .int .i64 k ∧ q = ov ∧ ids.length ≤ k ∧ Hid (¬ q = Value.slice none 0 0) ∧ Hid (OwnV wr w.heap.size (.slice av l.length capv) l) ∧ Hid (OwnI wr (w.heap.size + 1) q ids) ∧ Hid (DS wr w.heap.size (w.heap.size + 1)) ∧ Hid (Below w.heap.size w wr)) (fun iv _ _ => l.length - (intOf iv).toNat)
  case atStart => exact ⟨0, _, [], Nat.zero_le _, rfl, rfl, by simp, by show ¬ _ = _; simp, HO3, HI3, HD3, HB3⟩
  case round =>
    clear HO3 HI3 HD3 HB3 HD2 HB2 HO2' hs2
    obtain ⟨k, q, ids, hk, rfl, rfl, hidk, HQ, HO, HI, HD, HB⟩ := hrel
    have hsr : w.heap.size < wr.heap.size := HD.out.lt'
    by_cases hlt : k < l.length
    · have hltz : (k : Int) < (l.length : Int) := by omega
      go_wp2_with fail
      refine (once_d w.heap.size (w.heap.size + 1) 4 wr HD.out).mono ?_
      rintro e w3 ⟨t, rfl, HD3, HG3⟩
      have HO3 : Hid (OwnV w3 w.heap.size (.slice av l.length capv) l) := own_gr' HO.out HD.out HG3.out
      have HI3 : Hid (OwnI w3 (w.heap.size + 1) q ids) := own_gr HI.out HG3.out (by omega)
      have HB3 : Hid (Below w.heap.size w w3) := HB.out.grown HG3.out (by omega) (fun k e => by injection e; omega)
      have hs3 : w.heap.size < w3.heap.size := HD3.out.lt'
      clear HO HI HD HB HG3
      rcases t with _ | _
      · obtain ⟨a4, c4, e4, hvo, _, _⟩ := OwnV.o HO3.out
        rcases hvo with h0 | ⟨b, o, rfl, hv⟩
        · omega
        obtain ⟨rfl, rfl⟩ : av = some ⟨b, o, none⟩ ∧ capv = c4 := by simpa using e4
        have c1 := (hv k hlt).1
        obtain ⟨x, hx⟩ : ∃ x, l[k].i = x := ⟨_, rfl⟩
        rw [hx] at c1
        have HI4 : Hid (OwnI (w3.alloc (.cells #[.int .i64 x] 3)) (w.heap.size + 1) q ids) := World.ownsRow.alloc HI3.out _
        have HC : Hid (_) := one_int w3 x
        clear hv e4 hx
        go_wp2_with (at_builtin; refine wpList_append_own _ rfl _ _ 25 rfl (w.heap.size + 1) 3 i0 (.int .i64 0) 1 8 Try.underlying25 hinf hz0 hz1 hz2 rfl (by decide) _ _ _ rfl HI4.out ⟨w3.heap.size, 0, none⟩ 1 1 ([i64v x]) rfl rfl HC.out (i64v_one [x]) (by unfold maxLen; omega) (by omega) (by simp; omega) ?_)
        intro v' w4 hown' hgrow hnn
        have HNN : Hid (¬ v' = Value.slice none 0 0) := hnn
        clear hnn
        have hob : ∀ j, q.ownBlock = some j → w.heap.size + 1 ≤ j := fun j hj => (HI3.out.lt j hj).1
        have HI5 : Hid (OwnI w4 (w.heap.size + 1) v' (ids ++ [x])) := own_snocI hown'
        have HO5 : Hid (OwnV w4 w.heap.size (.slice (some ⟨b, o, none⟩) l.length capv) l) := own_otherV (World.ownsRow.alloc HO3.out _) HI4.out hgrow
        have HB5 : Hid (Below w.heap.size w w4) := (HB3.out.alloc HB3.out.size _).grown hgrow (by simp; omega) (fun j hj => by have := hob j hj; omega)
        have HD5 : Hid (DS w4 w.heap.size (w.heap.size + 1)) := HD3.out.below ((((Below.refl _ _).alloc (by omega) _)).grown hgrow (by simp; omega) (fun j hj => by have := hob j hj; omega))
        clear hown' hgrow HC HI4 HI3 HB3 HD3 HO3 hob
        go_wp2
        go_roundw
        case rel =>
          have R : ∃ (k' : Nat) (q' : Value) (ids' : List Int), k' ≤ l.length ∧ Value.int .i64 ((k : Int) + 1) = .int .i64 k' ∧ q' = v' ∧ ids'.length ≤ k' ∧ Hid (¬ q' = Value.slice none 0 0) ∧ Hid (OwnV w4 w.heap.size (.slice (some ⟨b, o, none⟩) l.length capv) l) ∧ Hid (OwnI w4 (w.heap.size + 1) q' ids') ∧ Hid (DS w4 w.heap.size (w.heap.size + 1)) ∧ Hid (Below w.heap.size w w4) := ⟨k + 1, v', ids ++ [x], by omega, by go_num, rfl, by simp; omega, HNN, HO5, HI5, HD5, HB5⟩
          first | exact R | ((repeat apply Exists.intro); exact ⟨R, rfl⟩)
        case measure => simp [intOf]; omega
      · go_wp2
        go_roundw
        case rel =>
          have R : ∃ (k' : Nat) (q' : Value) (ids' : List Int), k' ≤ l.length ∧ Value.int .i64 ((k : Int) + 1) = .int .i64 k' ∧ q' = q ∧ ids'.length ≤ k' ∧ Hid (¬ q' = Value.slice none 0 0) ∧ Hid (OwnV w3 w.heap.size (.slice av l.length capv) l) ∧ Hid (OwnI w3 (w.heap.size + 1) q' ids') ∧ Hid (DS w3 w.heap.size (w.heap.size + 1)) ∧ Hid (Below w.heap.size w w3) := ⟨k + 1, q, ids, by omega, by go_num, rfl, by omega, HQ, HO3, HI3, HD3, HB3⟩
          first | exact R | ((repeat apply Exists.intro); exact ⟨R, rfl⟩)
        case measure => simp [intOf]; omega
    · have hltz : ¬ (k : Int) < (l.length : Int) := by omega
      go_wp2_with fail
      refine (once_d w.heap.size (w.heap.size + 1) 4 wr HD.out).mono ?_
      rintro e w3 ⟨t, rfl, HD3, HG3⟩
      have HO3 : Hid (OwnV w3 w.heap.size (.slice av l.length capv) l) := own_gr' HO.out HD.out HG3.out
      have HI3 : Hid (OwnI w3 (w.heap.size + 1) q ids) := own_gr HI.out HG3.out (by omega)
      have HB3 : Hid (Below w.heap.size w w3) := HB.out.grown HG3.out (by omega) (fun k e => by injection e; omega)
      have hs3 : w.heap.size < w3.heap.size := HD3.out.lt'
      clear HO HI HD HB HG3
      rcases t with _ | _
      · go_wp2
        go_ret2
        have HI5 : Hid (OwnI w3 w.heap.size q ids) := own_mono HI3.out (by omega)
        have HN : Hid (ids.length ≤ 11 ∧ ¬ q = Value.slice none 0 0) := ⟨by omega, HQ.out⟩
        first | exact ⟨_, _, rfl, l, HO3, HDr, ids, HI5, HN, HB3⟩ | exact ⟨_, _, l, ids, rfl, HO3, HDr, HI5, HN, HB3⟩ | exact ⟨_, _, rfl, _, HO3, HDr, _, HI5, HN, HB3⟩
      · have HI4 : Hid (OwnI (w3.alloc (.cells #[.int .i64 1, .int .i64 1, .int .i64 50] 3)) (w.heap.size + 1) q ids) := World.ownsRow.alloc HI3.out _
        have HC : Hid (∀ j u, ([1, 1, 50].map i64v)[j]? = some u → (w3.alloc (.cells #[.int .i64 1, .int .i64 1, .int .i64 50] 3)).cell? ((⟨w3.heap.size, 0, none⟩ : Addr).add j) = some u) := by
          intro j u hj
          rw [add_at, cell_of_row _ _ j #[.int .i64 1, .int .i64 1, .int .i64 50] 3 (0, 0) (heap_alloc_new _ _)]
          rw [← hj]; simp [i64v]
        go_wp2_with (at_builtin; refine wpList_append_own _ rfl _ _ 25 rfl (w.heap.size + 1) 3 i0 (.int .i64 0) 1 8 Try.underlying25 hinf hz0 hz1 hz2 rfl (by decide) _ _ _ rfl HI4.out ⟨w3.heap.size, 0, none⟩ 3 3 ([1, 1, 50].map i64v) rfl rfl HC.out (i64v_one [1, 1, 50]) (by unfold maxLen; omega) (by omega) (by simp; omega) ?_)
        intro v' w4 hown' hgrow hnn
        have HNN : Hid (¬ v' = Value.slice none 0 0) := hnn
        clear hnn
        have hob : ∀ j, q.ownBlock = some j → w.heap.size + 1 ≤ j := fun j hj => (HI3.out.lt j hj).1
        have HI5 : Hid (OwnI w4 w.heap.size v' (ids ++ [1, 1, 50])) := by
          refine own_mono (B := w.heap.size + 1) ?_ (by omega)
          rw [List.map_append, List.length_append]; exact hown'
        have HO5 : Hid (OwnV w4 w.heap.size (.slice av l.length capv) l) := own_otherV (World.ownsRow.alloc HO3.out _) HI4.out hgrow
        have HB5 : Hid (Below w.heap.size w w4) := (HB3.out.alloc HB3.out.size _).grown hgrow (by simp; omega) (fun j hj => by have := hob j hj; omega)
        have HN : Hid ((ids ++ [1, 1, 50]).length ≤ 11 ∧ ¬ v' = Value.slice none 0 0) := ⟨by simp; omega, HNN.out⟩
        clear hown' hgrow HC HI4 HI3 HB3 HD3 HO3 hob
        go_wp2
        go_ret2
        first | exact ⟨_, _, rfl, l, HO5, HDr, _, HI5, HN, HB5⟩ | exact ⟨_, _, l, _, rfl, HO5, HDr, HI5, HN, HB5⟩
end Go.Proofs.Ytpieapinofojdaa
