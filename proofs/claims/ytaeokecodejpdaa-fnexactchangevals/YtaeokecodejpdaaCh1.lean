/- What impl.ChangeVals answers; old memory stays. Conditions: together at most 2 to the 20. -/
import Derived.Test.YtaeokecodejpdaaSo7
import Derived.Test.YtaeokecodejpdaaSo8
import Derived.Test.YtaeokecodejpdaaOk
import Derived.Laws.AppendOwnNone
namespace Go.Proofs.Ytaeokecodejpdaa
open Go.RowKit
open Num
set_option linter.unusedVariables false
theorem vO_news {w : World} {ad : Addr} {l : List V} (h : VO w (some ad) l) : ∀ j u, (vals l)[j]? = some u → w.cell? (ad.add j) = some u := by
  rcases h with h0 | ⟨b, o, e, hv⟩
  · intro j u hj
    have hlt : j < (vals l).length := (List.getElem?_eq_some_iff.1 hj).1
    rw [vals_length] at hlt
    omega
  · injection e with e
    subst e
    exact vAt_news hv
set_option maxHeartbeats 800000 in
set_option maxRecDepth 100000 in
/-- A copy of the program's own. -/
theorem copy_vals (p : Option Addr) (l : List V) (cap : Nat) (w : World) (hl : VO w p l) (hn : p = none → cap = 0) (hlen : l.length ≤ 1048576) :
    Calls Try.prog 14 #[.slice p l.length cap] w fun e w' => ∃ q, e = .returned q ∧ Hid (OwnV w' w.heap.size q l) ∧ Below w.heap.size w w' := by
  obtain ⟨i0, hinf, hz0, hz1, hz2⟩ := info33f
  rcases p with _ | ad
  · have h0 : l.length = 0 := by
      rcases hl with h | ⟨b, o, e, _⟩
      · exact h
      · cases e
    have hl0 : l = [] := List.length_eq_zero_iff.1 h0
    subst hl0
    obtain rfl : cap = 0 := hn rfl
    go_enter Try.func14, Try.ntmps14
    go_wp2_with (at_builtin; refine wpList_append_own_none rfl _ _ 24 rfl w.heap.size 34 i0 2 Try.underlying24 hinf _ _ _ rfl (OwnV.nil w w.heap.size) rfl ?_)
    go_wp2
    go_ret
    exact ⟨_, rfl, OwnV.nil _ _, Below.refl _ _⟩
  · have HC : Hid (_) := vO_news hl
    have HLen : Hid (l.length ≤ 1048576) := hlen
    clear hl hn
    go_enter Try.func14, Try.ntmps14
    go_wp2_with (at_builtin; refine wpList_append_own _ rfl _ _ 24 rfl w.heap.size 34 i0 (.agg #[.int .i64 0, .int .i64 0]) 2 16 Try.underlying24 hinf hz0 hz1 hz2 rfl (by decide) _ _ _ rfl (OwnV.nil w w.heap.size) ad l.length cap (vals l) rfl (vals_length _) HC.out (vals_one _) (by unfold maxLen; simp; omega) (by simp; omega) (Nat.le_refl _) ?_)
    intro v1 w1 hown hgrow _
    have HO1 : Hid (OwnV w1 w.heap.size v1 l) := by first | exact hown | (rw [Nat.zero_add] at hown; exact hown) | (simp at hown; exact hown)
    have HB1 : Below w.heap.size w w1 := (Below.refl _ _).grown hgrow (Nat.le_refl _) (fun j hj => by cases hj)
    clear hown hgrow HC
    go_wp2
    go_ret
    exact ⟨_, rfl, HO1, HB1⟩
set_option maxHeartbeats 1600000 in
set_option maxRecDepth 100000 in
theorem impl_change (b1 o1 b2 o2 c1 c2 : Nat) (l ch : List V) (w : World) (h1 : VAt w b1 o1 l) (h2 : VAt w b2 o2 ch) (hl : l.length + ch.length ≤ 1048576) :
    Calls Try.prog 7 #[.slice (some ⟨b1, o1, none⟩) l.length c1, .slice (some ⟨b2, o2, none⟩) ch.length c2] w fun e w' => ∃ (v : Value), e = .returned (.tuple #[v, .bool (chV l ch).2]) ∧ Hid (OwnV w' w.heap.size v (chV l ch).1) ∧ Hid (Below w.heap.size w w') := by
  obtain ⟨i0, hinf, hz0, hz1, hz2⟩ := info33f
  have H1 : Hid (VAt w b1 o1 l) := h1
  have H2 : Hid (VAt w b2 o2 ch) := h2
  have HC1 : Hid (_) := vAt_news h1
  clear h1 h2
  go_enter Try.func7, Try.ntmps7
  go_wp2_with fail
  refine (copy_vals (some ⟨b1, o1, none⟩) l c1 w (H1.out.o) (fun e => by cases e) (by omega)).mono ?_
  rintro e w1 ⟨v1, rfl, HO1, HB1'⟩
  have HB1 : Hid (Below w.heap.size w w1) := HB1'
  clear HB1' HC1
  go_wp2_with fail
  refine (impl_ok _ l _ w1 (H1.out.below HB1.out).o (by omega)).mono ?_
  rintro e w2 ⟨rfl, b2'⟩
  have HO2 : Hid (OwnV w2 w.heap.size v1 l) := own_below HO1.out b2'
  have HB2 : Hid (Below w.heap.size w w2) := HB1.out.trans (b2'.mono HB1.out.size)
  clear b2' HO1 HB1
  rcases hv : vOk l with _ | _
  · have HE : Hid (chV l ch = (l, false)) := chV_no hv
    clear hv
    go_wp2
    go_ret2
    rw [HE.out]
    exact ⟨_, rfl, HO2, HB2⟩
  · have hl0 : 0 < l.length := by
      rcases Nat.eq_zero_or_pos l.length with h | h
      · rw [vOk_short (by omega)] at hv; cases hv
      · exact h
    have HV : Hid (vOk l = true) := hv
    clear hv
    have hba : Below w2.heap.size w2 (w2.alloc (.cells #[.slice (some ⟨b1, o1, none⟩) l.length c1, .slice (some ⟨b2, o2, none⟩) ch.length c2] 24)) := (Below.refl _ _).alloc (Nat.le_refl _) _
    have kO := inOrder_two w2.heap.size b1 o1 b2 o2 c1 c2 l ch (w2.alloc (.cells #[.slice (some ⟨b1, o1, none⟩) l.length c1, .slice (some ⟨b2, o2, none⟩) ch.length c2] 24)) (by simp) (by simp) ((H1.out.below HB2.out).below hba) ((H2.out.below HB2.out).below hba) hl0 hl
    have HO3 : Hid (OwnV (w2.alloc (.cells #[.slice (some ⟨b1, o1, none⟩) l.length c1, .slice (some ⟨b2, o2, none⟩) ch.length c2] 24)) w.heap.size v1 l) := own_below HO2.out hba
    have HB3 : Hid (Below w.heap.size w (w2.alloc (.cells #[.slice (some ⟨b1, o1, none⟩) l.length c1, .slice (some ⟨b2, o2, none⟩) ch.length c2] 24))) := HB2.out.trans (hba.mono HB2.out.size)
    clear hba
    go_wp2_with fail
    refine kO.mono ?_
    clear kO
    rintro e w3 ⟨a, cap, d, rfl, ho, hd, b3⟩
    have HO4 : Hid (OwnV w3 w.heap.size v1 l) := own_below HO3.out b3
    have HB4 : Hid (Below w.heap.size w w3) := HB3.out.trans (b3.mono HB3.out.size)
    have HE : Hid (vlf d = spf l ch) := same_change HV.out ho.srt ho.stb
    have hdl : d.length ≤ 1048576 := by have := ho.len; rw [List.length_append] at this; omega
    clear HO3 HB3 HO2 HB2 b3 ho
    go_wp2_with fail
    refine (vl_any a d cap w3 hd hdl).mono ?_
    rintro e w4 ⟨v4, rfl, HO5, b4⟩
    have HO6 : Hid (OwnV w4 w.heap.size v1 l) := own_below HO4.out b4.out
    have HB6 : Hid (Below w.heap.size w w4) := HB4.out.trans (b4.out.mono HB4.out.size)
    have HO7 : Hid (OwnV w4 w.heap.size v4 (vlL d)) := own_mono HO5.out HB4.out.size
    clear HO4 HB4 HO5 b4 hd
    cases hs : spf l ch with
    | none =>
      have hvB : vlB d = false := by unfold vlB; rw [HE.out, hs]; rfl
      have HEE : Hid (chV l ch = (l, false)) := chV_none HV.out hs
      rw [hvB]
      clear hs hvB
      go_wp2
      go_ret2
      rw [HEE.out]
      exact ⟨_, rfl, HO6, HB6⟩
    | some out =>
      have hvB : vlB d = true := by unfold vlB; rw [HE.out, hs]; rfl
      have hvL : vlL d = out := by unfold vlL; rw [HE.out, hs]; rfl
      rw [hvB]
      rw [hvL] at HO7
      obtain ⟨a4, cap4, rfl, vo4, hc4, hm4⟩ := OwnV.o HO7.out
      have kK := impl_ok a4 out cap4 w4 vo4 (by omega)
      have HEE : Hid (chV l ch = bif vOk out then (out, true) else (l, false)) := by
        show _ = _
        cases hq : vOk out
        · rw [chV_bad HV.out hs hq]; rfl
        · rw [chV_yes HV.out hs hq]; rfl
      clear hs hvB hvL vo4
      generalize vOk out = r at *
      go_wp2_with fail
      refine kK.mono ?_
      clear kK
      rintro e w5 ⟨rfl, b5⟩
      have HB8 : Hid (Below w.heap.size w w5) := HB6.out.trans (b5.mono HB6.out.size)
      have HO8 : Hid (OwnV w5 w.heap.size v1 l) := own_below HO6.out b5
      have HO9 : Hid (OwnV w5 w.heap.size _ out) := own_below HO7.out b5
      clear HB6 HO6 HO7 b5
      cases r
      · go_wp2
        go_ret2
        rw [HEE.out]
        exact ⟨_, rfl, HO8, HB8⟩
      · go_wp2
        go_ret2
        rw [HEE.out]
        exact ⟨_, rfl, HO9, HB8⟩
end Go.Proofs.Ytaeokecodejpdaa
