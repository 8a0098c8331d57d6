/- What slices.Grow of nothing, slices.Concat of two rows and inOrder answer; old memory stays. Conditions: rows of at most 2 to the 20. -/
import Derived.Test.YtaeokecodejpdaaSo6
import Derived.Test.YtaeokecodejpdaaLv
import Derived.Test.YtaeokecodejpdaaRd
import Derived.Lib.AppendZerosOnto
import Derived.Lib.Walk
import Derived.Lib.SliceRun
namespace Go.Proofs.Ytaeokecodejpdaa
open Go.RowKit
open Num
set_option linter.unusedVariables false
set_option maxHeartbeats 400000 in
theorem grow_zero (w : World) : Calls Try.prog 26 #[.slice none 0 0, .int .i64 0] w fun e w' => e = .returned (.slice none 0 0) ∧ w' = w := by
  go_enter Try.func26, Try.ntmps26
  go_wp2
  go_ret
  exact ⟨rfl, rfl⟩
set_option maxHeartbeats 1600000 in
theorem grow_some (n : Nat) (w : World) (h0 : 0 < n) (hn : n ≤ 2097152) :
    Calls Try.prog 26 #[.slice none 0 0, .int .i64 (n : Int)] w fun e w' => ∃ cap, e = .returned (.slice (some ⟨w.heap.size, 0, none⟩) 0 cap) ∧ OwnV w' w.heap.size (.slice (some ⟨w.heap.size, 0, none⟩) 0 cap) [] ∧ Below w.heap.size w w' := by
  obtain ⟨i0, hinf, hz0, hz1, hz2⟩ := info33f
  have hold : (Builtin.firstCells i0.size 0 (.slice none 0 0)).run Try.prog w.drew = .ok #[] w.drew := run_firstCells_none w.drew i0.size 0 0 0
  have hrz : ∀ ty, (Builtin.append_ #[24, 3] ty #[.slice none 0 0, .int .i64 (n : Int)]).run Try.prog w =
      .ok (.slice (some ⟨w.heap.size, 0, none⟩) n (grownCap w n 0 34)) (w.drew.alloc (.cells (#[] ++ Builtin.zeroCells (Value.agg #[.int .i64 0, .int .i64 0]).cells n ++ Builtin.zeroCells (Value.agg #[.int .i64 0, .int .i64 0]).cells (grownCap w n 0 34 - n)) 34)) := fun ty => by
    have h := Lib.run_append_grow_zeros w 24 3 ty 34 i0 (.agg #[.int .i64 0, .int .i64 0]) .i64 .i64 Try.underlying24 Try.underlying3 hinf hz0 none 0 0 [] hold n (by omega) (by omega) (by omega) (by omega) (by rw [hz2]; omega) (by rw [hz2, Nat.zero_add]; exact growslice_fits (by omega) (by omega))
    simpa using h
  have hGn : n ≤ grownCap w n 0 34 := grownCap_ge w _ _ _
  have hG63 : grownCap w n 0 34 ≤ maxLen := grownCap_le_maxLen w n 0 34 (by unfold maxLen; omega)
  obtain ⟨G, hG⟩ : ∃ G, G = grownCap w n 0 34 := ⟨_, rfl⟩
  rw [← hG] at hrz hGn hG63
  obtain ⟨cur, hcur⟩ : ∃ cur, cur = #[] ++ Builtin.zeroCells (Value.agg #[.int .i64 0, .int .i64 0]).cells n ++ Builtin.zeroCells (Value.agg #[.int .i64 0, .int .i64 0]).cells (G - n) := ⟨_, rfl⟩
  rw [← hcur] at hrz
  have hsz : cur.size = G * 2 := by
    have hc2 : (Value.agg #[.int .i64 0, .int .i64 0]).cells.size = 2 := rfl
    rw [hcur]
    simp [size_zeroCells, hc2]
    omega
  have HO : Hid (OwnV (w.drew.alloc (.cells cur 34)) w.heap.size (.slice (some ⟨w.heap.size, 0, none⟩) 0 G) []) := ⟨rfl, .inr ⟨w.heap.size, G, cur, rfl, Nat.le_refl _, heap_alloc_new w.drew _, Nat.zero_le _, hG63, hsz, by simp [vals]⟩⟩
  have HB : Hid (Below w.heap.size w (w.drew.alloc (.cells cur 34))) := ((Below.refl _ _).drew).alloc (Nat.le_refl _) _
  have hn0 : ¬ (n : Int) < 0 := by omega
  have hn1 : (0 : Int) < (n : Int) := by omega
  unfold maxLen at hG63
  clear hold hG hcur hsz
  go_enter Try.func26, Try.ntmps26
  go_wp2_with (at_builtin; refine Lib.wpList_append_run _ rfl _ _ _ _ rfl _ _ rfl rfl _ _ (hrz _) ?_)
  all_goals (go_ret; exact ⟨G, rfl, HO.out, HB.out⟩)
theorem grow_any (n : Nat) (w : World) (hn : n ≤ 2097152) :
    Calls Try.prog 26 #[.slice none 0 0, .int .i64 (n : Int)] w fun e w' => ∃ v, e = .returned v ∧ OwnV w' w.heap.size v [] ∧ Below w.heap.size w w' := by
  by_cases h : n = 0
  · subst h
    refine (grow_zero w).mono ?_
    rintro e w' ⟨rfl, rfl⟩
    exact ⟨_, rfl, OwnV.nil _ _, Below.refl _ _⟩
  · refine (grow_some n w (by omega) hn).mono ?_
    rintro e w' ⟨cap, rfl, h1, h2⟩
    exact ⟨_, rfl, h1, h2⟩
theorem vAt_news {w : World} {b o : Nat} {l : List V} (h : VAt w b o l) : ∀ j u, (vals l)[j]? = some u → w.cell? ((⟨b, o, none⟩ : Addr).add j) = some u := by
  intro j u hj
  have hlt : j < (vals l).length := (List.getElem?_eq_some_iff.1 hj).1
  rw [vals_length] at hlt
  have hadd : (⟨b, o, none⟩ : Addr).add j = ⟨b, o + j, none⟩ := by
    unfold Addr.add
    by_cases h : j = 0 <;> simp [h]
  rw [hadd]
  obtain ⟨h1, h2⟩ := h (j / 2) (by omega)
  obtain ⟨e1, e2⟩ := vals_at l (j / 2) (by omega)
  rcases Nat.mod_two_eq_zero_or_one j with hm | hm
  · rw [show j / 2 * 2 = j from by omega] at h1 e1
    rw [h1, ← e1, hj]
  · rw [show o + j / 2 * 2 + 1 = o + j from by omega] at h2
    rw [show j / 2 * 2 + 1 = j from by omega] at e2
    rw [h2, ← e2, hj]
set_option maxHeartbeats 1600000 in
theorem concat_two (gl b1 o1 b2 o2 c1 c2 : Nat) (l1 l2 : List V) (w : World) (hg : w.cell? ⟨gl, 0, none⟩ = some (.slice (some ⟨b1, o1, none⟩) l1.length c1)) (hg2 : w.cell? ⟨gl, 1, none⟩ = some (.slice (some ⟨b2, o2, none⟩) l2.length c2))
    (h1 : VAt w b1 o1 l1) (h2 : VAt w b2 o2 l2) (hl1 : l1.length ≤ 1048576) (hl2 : l2.length ≤ 1048576) :
    Calls Try.prog 22 #[.slice (some ⟨gl, 0, none⟩) 2 2] w fun e w' => ∃ v, e = .returned v ∧ OwnV w' w.heap.size v (l1 ++ l2) ∧ Below w.heap.size w w' := by
  obtain ⟨i0, hinf, hz0, hz1, hz2⟩ := info33f
  have H1 : Hid (VAt w b1 o1 l1) := h1
  have H2 : Hid (VAt w b2 o2 l2) := h2
  have hgl : gl < w.heap.size := World.block_lt_of_cell? w _ hg
  have kG := grow_any (l1.length + l2.length) w (by omega)
  rw [show ((l1.length + l2.length : Nat) : Int) = (l1.length : Int) + (l2.length : Int) from by omega] at kG
  clear h1 h2
  go_enter Try.func22, Try.ntmps22
  go_wp2
  refine wp_loop_rounds 3 ?_
  rw [rounds_succ]
  go_wp2
  rw [rounds_succ]
  go_wp2
  rw [rounds_succ]
  go_wp2_with fail
  refine kG.mono ?_
  rintro e w1 ⟨v1, rfl, ho1, hb1⟩
  have HO1 : Hid (OwnV w1 w.heap.size v1 []) := ho1
  have g1 : w1.cell? ⟨gl, 0, none⟩ = some (.slice (some ⟨b1, o1, none⟩) l1.length c1) := by rw [hb1.cell (p := ⟨gl, 0, none⟩) hgl]; exact hg
  have HB1 : Hid (Below w.heap.size w w1) := hb1
  have HC1 : Hid (_) := vAt_news (H1.out.below hb1)
  have HGB : Hid (w.cell? ⟨gl, 1, none⟩ = some (.slice (some ⟨b2, o2, none⟩) l2.length c2)) := hg2
  clear ho1 hb1 kG hg hg2
  go_wp2
  refine wp_loop_rounds 3 ?_
  rw [rounds_succ]
  go_wp2_with (at_builtin; refine wpList_append_own _ rfl _ _ 24 rfl w.heap.size 34 i0 (.agg #[.int .i64 0, .int .i64 0]) 2 16 Try.underlying24 hinf hz0 hz1 hz2 rfl (by decide) _ _ _ rfl HO1.out ⟨b1, o1, none⟩ l1.length c1 (vals l1) rfl (vals_length _) HC1.out (vals_one _) (by unfold maxLen; simp; omega) (by simp; omega) HB1.out.size ?_)
  intro v2 w2 hown2 hgrow2 _
  have HO2 : Hid (OwnV w2 w.heap.size v2 l1) := by show World.ownsRow _ _ _ _ _ _ _; simpa [vals] using hown2
  have hb2 := HB1.out.grown hgrow2 HB1.out.size (fun j hj => (HO1.out.lt j hj).1)
  have g2 : w2.cell? ⟨gl, 1, none⟩ = some (.slice (some ⟨b2, o2, none⟩) l2.length c2) := by rw [hb2.cell (p := ⟨gl, 1, none⟩) hgl]; exact HGB.out
  have HB2 : Hid (Below w.heap.size w w2) := hb2
  have HC2 : Hid (_) := vAt_news (H2.out.below hb2)
  clear hown2 hgrow2 hb2 HC1 HO1 HB1 g1
  go_wp2
  rw [rounds_succ]
  go_wp2_with (at_builtin; refine wpList_append_own _ rfl _ _ 24 rfl w.heap.size 34 i0 (.agg #[.int .i64 0, .int .i64 0]) 2 16 Try.underlying24 hinf hz0 hz1 hz2 rfl (by decide) _ _ _ rfl HO2.out ⟨b2, o2, none⟩ l2.length c2 (vals l2) rfl (vals_length _) HC2.out (vals_one _) (by unfold maxLen; omega) (by omega) HB2.out.size ?_)
  intro v3 w3 hown3 hgrow3 _
  have HO3 : Hid (OwnV w3 w.heap.size v3 (l1 ++ l2)) := by show World.ownsRow _ _ _ _ _ _ _; rw [vals_append, List.length_append]; exact hown3
  have HB3 : Hid (Below w.heap.size w w3) := HB2.out.grown hgrow3 HB2.out.size (fun j hj => (HO2.out.lt j hj).1)
  clear hown3 hgrow3 HC2 HO2 HB2 g2
  go_wp2
  rw [rounds_succ]
  go_wp2
  go_ret
  exact ⟨_, rfl, HO3.out, HB3.out⟩
set_option maxHeartbeats 1600000 in
theorem inOrder_two (gl b1 o1 b2 o2 c1 c2 : Nat) (l1 l2 : List V) (w : World) (hg : w.cell? ⟨gl, 0, none⟩ = some (.slice (some ⟨b1, o1, none⟩) l1.length c1)) (hg2 : w.cell? ⟨gl, 1, none⟩ = some (.slice (some ⟨b2, o2, none⟩) l2.length c2))
    (h1 : VAt w b1 o1 l1) (h2 : VAt w b2 o2 l2) (hl0 : 0 < l1.length) (hl : l1.length + l2.length ≤ 1048576) :
    Calls Try.prog 17 #[.func (.func 18) #[] #[], .slice (some ⟨gl, 0, none⟩) 2 2] w fun e w' => ∃ (a : Option Addr) (cap : Nat) (l' : List V), e = .returned (.slice a l'.length cap) ∧ Ord (l1 ++ l2) l' ∧ VO w' a l' ∧ Below w.heap.size w w' := by
  have hgl : gl < w.heap.size := World.block_lt_of_cell? w _ hg
  have hba : Below w.heap.size w (w.alloc (.cells #[.func (.func 18) #[] #[]] 40)) := (Below.refl _ _).alloc (Nat.le_refl _) _
  have kC := concat_two gl b1 o1 b2 o2 c1 c2 l1 l2 (w.alloc (.cells #[.func (.func 18) #[] #[]] 40)) (by rw [hba.cell (p := ⟨gl, 0, none⟩) hgl]; exact hg) (by rw [hba.cell (p := ⟨gl, 1, none⟩) hgl]; exact hg2) (h1.below hba) (h2.below hba) (by omega) (by omega)
  have hcf : CF (w.alloc (.cells #[.func (.func 18) #[] #[]] 40)) w.heap.size := by unfold CF; simp
  have hs : (w.alloc (.cells #[.func (.func 18) #[] #[]] 40)).heap.size = w.heap.size + 1 := by simp
  have HA : Hid (Below w.heap.size w (w.alloc (.cells #[.func (.func 18) #[] #[]] 40)) ∧ CF (w.alloc (.cells #[.func (.func 18) #[] #[]] 40)) w.heap.size ∧ (w.alloc (.cells #[.func (.func 18) #[] #[]] 40)).heap.size = w.heap.size + 1) := ⟨hba, hcf, hs⟩
  clear hg hg2 h1 h2 hba hcf hs
  go_enter Try.func17, Try.ntmps17
  go_wp2_with fail
  refine kC.mono ?_
  rintro e w1 ⟨v1, rfl, ho, hb⟩
  obtain ⟨ba, cfa, sa⟩ := HA.out
  have ho' := ho
  rcases ho.2 with ⟨_, hn⟩ | ⟨g, cap, cur, rfl, hgB, hh, hnc, hcm, _⟩
  · exfalso; rw [List.length_append] at hn; omega
  have HSS : Hid (SS w1 g w.heap.size (l1 ++ l2) w1) := by
    have hv : VAt w1 g 0 (l1 ++ l2) ∧ Room w1 g 0 ((l1 ++ l2).length * 2) := by
      refine ⟨fun j hj => ?_, fun j hj => ?_⟩
      · obtain ⟨e1, e2⟩ := vals_at (l1 ++ l2) j hj
        rw [Nat.zero_add, ho'.cellAt (j * 2) (by omega), ho'.cellAt (j * 2 + 1) (by omega), e1, e2]
        exact ⟨rfl, rfl⟩
      · rw [Nat.zero_add]
        refine ⟨?_, ho'.frozenAt j⟩
        rw [ho'.cellAt j (by omega), List.getElem?_eq_getElem (by rw [vals_length]; exact hj)]; rfl
    exact ⟨gr_refl _ _, hv.1, hv.2, cfa.below hb, by omega⟩
  have HB1 : Hid (Below w.heap.size w w1) := ba.trans (hb.mono ba.size)
  have hgw : w.heap.size < g := by omega
  have hgw1 : g < w1.heap.size := (Array.getElem?_eq_some_iff.1 hh).1
  have kS := sort_any g w.heap.size cap (l1 ++ l2) w1 w1 HSS.out (by rw [List.length_append]; exact hl)
  rw [List.length_append] at kS
  clear ho ho' hh hb ba cfa sa HA
  go_wp2_with fail
  refine kS.mono ?_
  rintro r w2 ⟨rfl, l', hO, hs⟩
  have HF : Hid (Ord (l1 ++ l2) l' ∧ VO w2 (some ⟨g, 0, none⟩) l' ∧ Below w.heap.size w w2) := ⟨hO, hs.at'.o, HB1.out.grown hs.gr HB1.out.size (fun j e => by injection e; omega)⟩
  have HL : Hid (l'.length = l1.length + l2.length) := by show _ = _; rw [hO.len, List.length_append]
  clear hs hO kS HSS
  go_wp2
  go_ret
  refine ⟨some ⟨g, 0, none⟩, cap, l', ?_, HF.out.1, HF.out.2.1, HF.out.2.2⟩
  rw [HL.out]; rfl
end Go.Proofs.Ytaeokecodejpdaa
