/- What spec.ChangeVals answers; old memory stays. Conditions: together at most 2 to the 20. -/
import Derived.Test.YtaeokecodejpdaaSo7
import Derived.Test.YtaeokecodejpdaaSo9
import Derived.Test.YtaeokecodejpdaaOk
namespace Go.Proofs.Ytaeokecodejpdaa
open Go.RowKit
open Num
set_option linter.unusedVariables false
set_option maxHeartbeats 1600000 in
set_option maxRecDepth 100000 in
theorem spec_change (b1 o1 b2 o2 c1 c2 : Nat) (l ch : List V) (w : World) (h1 : VAt w b1 o1 l) (h2 : VAt w b2 o2 ch) (hl : l.length + ch.length ≤ 1048576) :
    Calls Try.prog 5 #[.slice (some ⟨b1, o1, none⟩) l.length c1, .slice (some ⟨b2, o2, none⟩) ch.length c2] w fun e w' => ∃ (v : Value), e = .returned (.tuple #[v, .bool (chV l ch).2]) ∧ Hid (OwnV w' w.heap.size v (chV l ch).1) ∧ Hid (Below w.heap.size w w') := by
  obtain ⟨i0, hinf, hz0, hz1, hz2⟩ := info33f
  have H1 : Hid (VAt w b1 o1 l) := h1
  have H2 : Hid (VAt w b2 o2 ch) := h2
  clear h1 h2
  have HN : Hid (∀ W : World, Below w.heap.size w W → OwnV (W.alloc (.cells #[] 34)) w.heap.size (.slice (some ⟨W.heap.size, 0, none⟩) 0 0) [] ∧ Below w.heap.size w (W.alloc (.cells #[] 34)) ∧ ∀ j u, (vals l)[j]? = some u → (W.alloc (.cells #[] 34)).cell? ((⟨b1, o1, none⟩ : Addr).add j) = some u) := fun W h => by
    have hb : Below w.heap.size w (W.alloc (.cells #[] 34)) := h.alloc h.size _
    exact ⟨World.ownsRow_made W #[] 0 h.size (by decide) rfl, hb, vAt_news (H1.out.below hb)⟩
  obtain ⟨n1, n2, n3⟩ := HN.out w (Below.refl _ _)
  have HO0 : Hid (_ ∧ _ ∧ _) := ⟨n1, n2, n3⟩
  clear n1 n2 n3
  go_enter Try.func5, Try.ntmps5
  go_wp2_with (at_builtin; refine wpList_append_own _ rfl _ _ 24 rfl w.heap.size 34 i0 (.agg #[.int .i64 0, .int .i64 0]) 2 16 Try.underlying24 hinf hz0 hz1 hz2 rfl (by decide) _ _ _ rfl HO0.out.1 ⟨b1, o1, none⟩ l.length c1 (vals l) rfl (vals_length _) HO0.out.2.2 (vals_one _) (by unfold maxLen; simp; omega) (by simp; omega) HO0.out.2.1.size ?_)
  intro v1 w1 hown hgrow _
  have HO1 : Hid (OwnV w1 w.heap.size v1 l) := by first | exact hown | (rw [Nat.zero_add] at hown; exact hown) | (simp at hown; exact hown)
  have HB1 : Hid (Below w.heap.size w w1) := HO0.out.2.1.grown hgrow HO0.out.2.1.size (fun j hj => (HO0.out.1.lt j hj).1)
  clear hown hgrow HO0
  go_wp2_with fail
  refine (spec_ok _ l _ w1 (H1.out.below HB1.out).o (by omega)).mono ?_
  rintro e w2 ⟨rfl, b2'⟩
  have HO2 : Hid (OwnV w2 w.heap.size v1 l) := own_below HO1.out b2'
  have HB2 : Hid (Below w.heap.size w w2) := HB1.out.trans (b2'.mono HB1.out.size)
  clear b2' HO1 HB1
  rcases hv : vOk l with _ | _
  · have HE : Hid (chV l ch = (l, false)) := chV_no hv
    clear hv
    go_wp2
    go_ret2
    rw [HE.out]
    exact ⟨_, rfl, HO2, HB2⟩
  · have HV : Hid (vOk l = true) := hv
    clear hv
    go_wp2
    go_loopw [8, 7] (fun iv ov wr => ∃ (k : Nat) (q : Value) (out : List V), k ≤ ch.length ∧ iv = .int .i64 k ∧ q = ov ∧ out.length ≤ l.length + k ∧ Hid (spf l (ch.take k) = some out) ∧ Hid (OwnV wr w.heap.size q out) ∧ Hid (Below w.heap.size w wr)) (fun iv _ _ => ch.length - (intOf iv).toNat)
    case atStart => exact ⟨0, _, l, Nat.zero_le _, rfl, rfl, by omega, rfl, HO2, HB2⟩
    case round =>
      clear HO2 HB2
      obtain ⟨k, q, out, hk, rfl, rfl, hol, HS, HO, HB⟩ := hrel
      by_cases hlt : k < ch.length
      · have hltz : (k : Int) < (ch.length : Int) := by omega
        obtain ⟨x, hx⟩ : ∃ x, ch[k] = x := ⟨_, rfl⟩
        have y1 := ((H2.out.below HB.out) k hlt).1
        have y2 := ((H2.out.below HB.out) k hlt).2
        rw [hx] at y1 y2
        have HSS : Hid (spf l (ch.take (k + 1)) = bif (c6 out x).2 then some (c6 out x).1 else none) := by
          show _ = _
          rw [List.take_succ_eq_append_getElem hlt, spf_snoc, HS.out, hx]; rfl
        have hcl := c6_len out x
        obtain ⟨aq, capq, rfl, vo, hcq, hcm⟩ := OwnV.o HO.out
        have kL := l6_any aq out capq x wr vo (by omega)
        clear hx vo HS
        obtain ⟨xi, xp⟩ := x
        simp only at y1 y2 kL
        go_wp2_with fail
        refine kL.mono ?_
        clear kL
        rintro e w3 ⟨v3, rfl, HO3, b3⟩
        have HB3 : Hid (Below w.heap.size w w3) := HB.out.trans (b3.out.mono HB.out.size)
        have HO4 : Hid (OwnV w3 w.heap.size v3 (c6 out ⟨xi, xp⟩).1) := own_mono HO3.out HB.out.size
        clear HO3 b3 HB HO y1 y2
        rcases hc : (c6 out ⟨xi, xp⟩).2 with _ | _
        · have HEE : Hid (chV l ch = (l, false)) := chV_none HV.out (by
            have h9 := HSS.out
            rw [hc] at h9
            have := spf_none l _ (ch.drop (k + 1)) h9
            rwa [List.take_append_drop] at this)
          obtain ⟨n1, n2, n3⟩ := HN.out w3 HB3.out
          have HO5 : Hid (_ ∧ _ ∧ _) := ⟨n1, n2, n3⟩
          clear n1 n2 n3 HSS hc
          go_wp2_with (at_builtin; refine wpList_append_own _ rfl _ _ 24 rfl w.heap.size 34 i0 (.agg #[.int .i64 0, .int .i64 0]) 2 16 Try.underlying24 hinf hz0 hz1 hz2 rfl (by decide) _ _ _ rfl HO5.out.1 ⟨b1, o1, none⟩ l.length c1 (vals l) rfl (vals_length _) HO5.out.2.2 (vals_one _) (by unfold maxLen; simp; omega) (by simp; omega) HO5.out.2.1.size ?_)
          intro v6 w6 hown hgrow _
          have HO6 : Hid (OwnV w6 w.heap.size v6 l) := by first | exact hown | (rw [Nat.zero_add] at hown; exact hown) | (simp at hown; exact hown)
          have HB6 : Hid (Below w.heap.size w w6) := HO5.out.2.1.grown hgrow HO5.out.2.1.size (fun j hj => (HO5.out.1.lt j hj).1)
          clear hown hgrow HO5
          go_wp2
          go_ret2
          rw [HEE.out]
          exact ⟨_, rfl, HO6, HB6⟩
        · have HS2 : Hid (spf l (ch.take (k + 1)) = some (c6 out ⟨xi, xp⟩).1) := by show _ = _; rw [HSS.out, hc]; rfl
          clear HSS hc
          generalize (c6 out ⟨xi, xp⟩).1 = out2 at *
          go_wp2
          go_roundw
          case rel =>
            have R : ∃ (k' : Nat) (q' : Value) (out' : List V), k' ≤ ch.length ∧ Value.int .i64 ((k : Int) + 1) = .int .i64 k' ∧ q' = v3 ∧ out'.length ≤ l.length + k' ∧ Hid (spf l (ch.take k') = some out') ∧ Hid (OwnV w3 w.heap.size q' out') ∧ Hid (Below w.heap.size w w3) := ⟨k + 1, _, out2, by omega, by go_num, rfl, by omega, HS2, HO4, HB3⟩
            first | exact R | ((repeat apply Exists.intro); exact ⟨R, rfl⟩)
          case measure => simp [intOf]; omega
      · have hltz : ¬ (k : Int) < (ch.length : Int) := by omega
        have hsp : spf l ch = some out := by rw [← HS.out, List.take_of_length_le (by omega)]
        obtain ⟨aq, capq, rfl, vo, hcq, hcm⟩ := OwnV.o HO.out
        have kO := spec_ok aq out capq wr vo (by omega)
        clear HS vo
        rcases hq : vOk out with _ | _
        · have HEE : Hid (chV l ch = (l, false)) := chV_bad HV.out hsp hq
          rw [hq] at kO
          clear hsp hq
          go_wp2_with fail
          refine kO.mono ?_
          clear kO
          rintro e w3 ⟨rfl, b3⟩
          have HB3 : Hid (Below w.heap.size w w3) := HB.out.trans (b3.mono HB.out.size)
          obtain ⟨n1, n2, n3⟩ := HN.out w3 HB3.out
          have HO5 : Hid (_ ∧ _ ∧ _) := ⟨n1, n2, n3⟩
          clear n1 n2 n3 b3
          go_wp2_with (at_builtin; refine wpList_append_own _ rfl _ _ 24 rfl w.heap.size 34 i0 (.agg #[.int .i64 0, .int .i64 0]) 2 16 Try.underlying24 hinf hz0 hz1 hz2 rfl (by decide) _ _ _ rfl HO5.out.1 ⟨b1, o1, none⟩ l.length c1 (vals l) rfl (vals_length _) HO5.out.2.2 (vals_one _) (by unfold maxLen; simp; omega) (by simp; omega) HO5.out.2.1.size ?_)
          intro v6 w6 hown hgrow _
          have HO6 : Hid (OwnV w6 w.heap.size v6 l) := by first | exact hown | (rw [Nat.zero_add] at hown; exact hown) | (simp at hown; exact hown)
          have HB6 : Hid (Below w.heap.size w w6) := HO5.out.2.1.grown hgrow HO5.out.2.1.size (fun j hj => (HO5.out.1.lt j hj).1)
          clear hown hgrow HO5
          go_wp2
          go_ret2
          rw [HEE.out]
          exact ⟨_, rfl, HO6, HB6⟩
        · have HEE : Hid (chV l ch = (out, true)) := chV_yes HV.out hsp hq
          rw [hq] at kO
          clear hsp hq
          go_wp2_with fail
          refine kO.mono ?_
          clear kO
          rintro e w3 ⟨rfl, b3⟩
          have HB3 : Hid (Below w.heap.size w w3) := HB.out.trans (b3.mono HB.out.size)
          have HO3 : Hid (OwnV w3 w.heap.size _ out) := own_below HO.out b3
          clear b3 HO HB
          go_wp2
          go_ret2
          rw [HEE.out]
          exact ⟨_, rfl, HO3, HB3⟩
end Go.Proofs.Ytaeokecodejpdaa
