/- What valsLeft answers; old memory stays. Conditions: rows of at most 2 to the 20. -/
import Derived.Test.YtaeokecodejpdaaMc2
import Derived.Test.YtaeokecodejpdaaDw
namespace Go.Proofs.Ytaeokecodejpdaa
open Go.RowKit
open Num
set_option linter.unusedVariables false
theorem own_pop {w : World} {B g cap L : Nat} {A : List V} {u : V} (h : OwnV w B (.slice (some ⟨g, 0, none⟩) (L + 1) cap) (A ++ [u])) (hA : A.length = L) : OwnV w B (.slice (some ⟨g, 0, none⟩) L cap) A := by
  subst hA
  obtain ⟨h1, h2⟩ := h
  refine ⟨vals_length A, ?_⟩
  rcases h2 with ⟨h2, _⟩ | ⟨g', cap', cur, hv, hgB, hh, h3, h4, h5, h6⟩
  · cases h2
  · simp only [Value.slice.injEq, Option.some.injEq, Addr.mk.injEq, and_true] at hv
    obtain ⟨rfl, _, rfl⟩ := hv
    refine Or.inr ⟨g, cap, cur, rfl, hgB, hh, by rw [List.length_append] at h3; omega, h4, h5, ?_⟩
    have e := congrArg (List.take (A.length * 2)) h6
    rw [List.take_take, Nat.min_eq_left (by rw [List.length_append]; omega), vals_append, List.take_append_of_le_length (by rw [vals_length]; exact Nat.le_refl _), List.take_of_length_le (l := vals A) (by rw [vals_length]; exact Nat.le_refl _)] at e
    exact e
def vlB (d : List V) : Bool := (vlf d).isSome
def vlL (d : List V) : List V := (vlf d).getD []
set_option maxHeartbeats 3200000 in
set_option maxRecDepth 100000 in
theorem vl_any (a : Option Addr) (d : List V) (cap : Nat) (w : World) (hd : VO w a d) (hlen : d.length ≤ 1048576) :
    Calls Try.prog 16 #[.slice a d.length cap] w fun e w' => ∃ (v : Value), e = .returned (.tuple #[v, .bool (vlB d)]) ∧ Hid (OwnV w' w.heap.size v (vlL d)) ∧ Hid (Below w.heap.size w w') := by
  obtain ⟨i0, hinf, hz0, hz1, hz2⟩ := info33f
  have HD : Hid (VO w a d) := hd
  clear hd
  go_enter Try.func16, Try.ntmps16
  go_wp2
  go_loopw [11, 4] (fun iv ov wr => ∃ (k : Nat) (q : Value) (acc : List V), k ≤ d.length ∧ iv = .int .i64 k ∧ q = ov ∧ acc.length ≤ k ∧ Hid (vlf (d.take k) = some acc) ∧ Hid (OwnV wr w.heap.size q acc) ∧ Hid (Below w.heap.size w wr)) (fun iv _ _ => d.length - (intOf iv).toNat)
  case atStart => exact ⟨0, _, [], Nat.zero_le _, rfl, rfl, Nat.zero_le _, rfl, OwnV.nil _ _, Below.refl _ _⟩
  case round =>
    obtain ⟨k, q, acc, hk, rfl, rfl, hak, HV, HO, HB⟩ := hrel
    by_cases hlt : k < d.length
    · have hltz : (k : Int) < (d.length : Int) := by omega
      rcases HD.out with h0 | ⟨b, o, rfl, hv0⟩
      · omega
      obtain ⟨ch, hch⟩ : ∃ v, d[k] = v := ⟨_, rfl⟩
      have c1 := ((hv0.below HB.out) k hlt).1
      have c2 := ((hv0.below HB.out) k hlt).2
      rw [hch] at c1 c2
      have HN : Hid (vlf (d.take (k + 1)) = vlStep acc ch) := by
        show _ = _
        rw [List.take_succ_eq_append_getElem hlt, vlf_snoc, HV.out, hch]; rfl
      have HFAIL : Hid (vlStep acc ch = none → vlf d = none) := fun h => by
        have := vlf_none (d.take (k + 1)) (d.drop (k + 1)) (HN.out.trans h)
        rwa [List.take_append_drop] at this
      have hs1 : w.heap.size ≤ wr.heap.size := HB.out.size
      have HB2 : Hid (Below w.heap.size w (wr.alloc (.cells #[.int .i64 ch.i, .int .i64 ch.p] 34))) := HB.out.alloc HB.out.size _
      have HO2 : Hid (OwnV (wr.alloc (.cells #[.int .i64 ch.i, .int .i64 ch.p] 34)) w.heap.size q acc) := World.ownsRow.alloc HO.out _
      have HO3 : Hid (OwnV ((wr.alloc (.cells #[.int .i64 ch.i, .int .i64 ch.p] 34)).alloc (.cells #[.int .i64 ch.i, .int .i64 ch.p] 34)) w.heap.size q acc) := World.ownsRow.alloc HO2.out _
      clear hch hv0
      have HF0 : Hid (vlStep acc ch = none → vlB d = false ∧ vlL d = []) := fun h => by
        have := HFAIL.out h
        unfold vlB vlL; rw [this]; exact ⟨rfl, rfl⟩
      have d1 : (wr.alloc (.cells #[.int .i64 ch.i, .int .i64 ch.p] 34)).cell? ⟨wr.heap.size, 0, none⟩ = some (.int .i64 ch.i) := by simp
      have d2 : (wr.alloc (.cells #[.int .i64 ch.i, .int .i64 ch.p] 34)).cell? ⟨wr.heap.size, 1, none⟩ = some (.int .i64 ch.p) := by simp
      have hsn : wr.heap.size + 1 ≤ (wr.alloc (.cells #[.int .i64 ch.i, .int .i64 ch.p] 34)).heap.size := by simp
      clear HO3 HFAIL
      by_cases hacc : acc.length = 0
      · have ha0 : acc = [] := List.eq_nil_of_length_eq_zero hacc
        subst ha0
        obtain ⟨aq, capq, rfl, _, _, _⟩ := OwnV.o HO.out
        have HST : Hid (vlStep [] ch = if ch.p = 0 then none else some [ch]) := by show _ = _; unfold vlStep; simp
        obtain ⟨ci, cp⟩ := ch
        clear hacc hak HO HB HV
        have hm1 : decide ((0 : Int) ≤ -1) = false := by decide
        simp only at d1 d2 HB2 HO2 hsn c1 c2
        go_wp2_with fail
        generalize wr.alloc (Obj.cells #[Value.int .i64 ci, Value.int .i64 cp] 34) = wn at *
        have hne := bel_some wn
        have HQ : Hid (∀ p : Bel wn, OwnV p.W w.heap.size (.slice aq 0 capq) [] ∧ Below w.heap.size w p.W ∧ wr.heap.size + 1 ≤ p.W.heap.size ∧ p.W.cell? ⟨wr.heap.size, 0, none⟩ = some (.int .i64 ci) ∧ p.W.cell? ⟨wr.heap.size, 1, none⟩ = some (.int .i64 cp)) := fun p =>
          ⟨own_below HO2.out p.h, HB2.out.trans (p.h.mono HB2.out.size), by have := p.h.size; omega, p.cell d1, p.cell d2⟩
        have e1 := fun p : Bel wn => p.cell d1
        have e2 := fun p : Bel wn => p.cell d2
        clear d1 d2 HB2 HO2
        refine wp_region_below (by kernel_rfl) (by kernel_rfl) ?_
        repeat (go_big_quiet_step (fail))
        refine wpQuiet_nil ?_
        intro _ hw'
        obtain ⟨pq, hw''⟩ := hw'
        subst hw''
        obtain ⟨r1, r2, r3, r4, r5⟩ := HQ.out pq
        have HO5 : Hid (OwnV pq.W w.heap.size (.slice aq 0 capq) []) := r1
        have HB5 : Hid (Below w.heap.size w pq.W) := r2
        clear e1 e2 r1 r2 HQ
        generalize pq.W = wp at *
        have HY : Hid (¬ cp = 0 → vlf (d.take (k + 1)) = some ([] ++ [⟨ci, cp⟩])) := fun h => by rw [HN.out, HST.out, if_neg h]; rfl
        have HZ : Hid (cp = 0 → vlB d = false ∧ vlL d = []) := fun h => HF0.out (by rw [HST.out, if_pos h])
        have hak : ([] : List V).length ≤ k := Nat.zero_le _
        clear HN HST HF0 hne
        by_cases hp : cp = 0
        · have HZp : Hid (vlB d = false ∧ vlL d = []) := HZ.out hp
          clear HZ HY
          subst hp
          go_wp2
          go_ret2
          rw [HZp.out.1, HZp.out.2]
          exact ⟨_, rfl, OwnV.nil _ _, HB5⟩
        · have HO6 : Hid (OwnV (wp.alloc (.cells #[.int .i64 ci, .int .i64 cp] 34)) w.heap.size (.slice aq 0 capq) ([])) := World.ownsRow.alloc HO5.out _
          have HC : Hid (_) := one_val wp ⟨ci, cp⟩ wp.heap.size rfl
          have hsw : w.heap.size ≤ wp.heap.size := HB5.out.size
          go_wp2_with (at_builtin; refine wpList_append_own _ rfl _ _ 24 rfl w.heap.size 34 i0 (.agg #[.int .i64 0, .int .i64 0]) 2 16 Try.underlying24 hinf hz0 hz1 hz2 rfl (by decide) _ _ _ rfl HO6.out ⟨wp.heap.size, 0, none⟩ 1 1 (vals [⟨ci, cp⟩]) rfl rfl HC.out (vals_one _) (by unfold maxLen; omega) (by omega) (by simp; omega) ?_)
          intro v' w4 hown' hgrow _
          have HO7 : Hid (OwnV w4 w.heap.size v' ([] ++ [⟨ci, cp⟩])) := own_snocV (by first | exact hown' | (rw [hl1]; exact hown'))
          have HB7 : Hid (Below w.heap.size w w4) := (HB5.out.alloc HB5.out.size (.cells #[.int .i64 ci, .int .i64 cp] 34)).grown hgrow (by simp; omega) (fun j hj => (HO5.out.lt j hj).1)
          clear hgrow hown' HC HO6 HO5 HB5
          have HYp : Hid (vlf (d.take (k + 1)) = some ([] ++ [(⟨ci, cp⟩ : V)])) := HY.out hp
          have hak1 : ([] ++ [(⟨ci, cp⟩ : V)]).length ≤ k + 1 := by rw [List.length_append]; simp only [List.length_singleton]; omega
          clear HY HZ
          go_wp2
          go_roundw
          case rel =>
            have R : ∃ (k' : Nat) (q : Value) (acc : List V), k' ≤ d.length ∧ Value.int .i64 ((k : Int) + 1) = .int .i64 k' ∧ q = v' ∧ acc.length ≤ k' ∧ Hid (vlf (d.take k') = some acc) ∧ Hid (OwnV w4 w.heap.size q acc) ∧ Hid (Below w.heap.size w w4) := ⟨k + 1, _, [] ++ [(⟨ci, cp⟩ : V)], by omega, by go_num, rfl, hak1, HYp, HO7, HB7⟩
            first | exact R | ((repeat apply Exists.intro); exact ⟨R, rfl⟩)
          case measure => simp [intOf]; omega
      · obtain ⟨g, capq, rfl, hgB, hcs⟩ := OwnV.row HO.out (by omega)
        obtain ⟨A, u, rfl⟩ : ∃ A u, acc = A ++ [u] := ⟨_, _, last_split (by omega)⟩
        obtain ⟨L, hL⟩ : ∃ L, A.length = L := ⟨_, rfl⟩
        have hl1 : (A ++ [u]).length = L + 1 := by rw [List.length_append, hL]; rfl
        have hel : el (A ++ [u]) L = u := by rw [← hL]; rw [el_right (Nat.le_refl _), Nat.sub_self]; rfl
        have htk : (A ++ [u]).take L = A := by rw [← hL]; exact List.take_left' rfl
        have hsl : (A ++ [u]).set L ⟨u.i, ch.p⟩ = A ++ [⟨u.i, ch.p⟩] := by rw [← hL]; simp
        have HST : Hid (vlStep (A ++ [u]) ch = if u.i = ch.i then (if ch.p = 0 then some A else some (A ++ [⟨u.i, ch.p⟩])) else if ch.p = 0 then none else some (A ++ [u] ++ [ch])) := by
          show _ = _
          unfold vlStep
          rw [hl1, Nat.add_sub_cancel, hel, htk]
          simp
        have HSL : Hid ((A ++ [u]).set L ⟨(A ++ [u])[L].i, ch.p⟩ = A ++ [⟨u.i, ch.p⟩]) := by
          show _ = _
          rw [show (A ++ [u])[L] = u from by subst hL; simp]; exact hsl
        obtain ⟨ui, up⟩ := u
        obtain ⟨ci, cp⟩ := ch
        simp only at d1 d2 HB2 HO2 hsn c1 c2 HST HSL
        have HOL : Hid (OwnV wr w.heap.size (.slice (some ⟨g, 0, none⟩) (L + 1) capq) (A ++ [⟨ui, up⟩])) := by show OwnV _ _ _ _; rw [← hl1]; exact HO.out
        rw [hl1] at HO2 hak ⊢
        have hgw : g < wr.heap.size := (HO.out.lt g rfl).2
        have hrow : ∀ W : World, OwnV W w.heap.size (.slice (some ⟨g, 0, none⟩) (L + 1) capq) (A ++ [⟨ui, up⟩]) → W.cell? ⟨g, L * 2, none⟩ = some (.int .i64 ui) ∧ W.cell? ⟨g, L * 2 + 1, none⟩ = some (.int .i64 up) ∧ W.frozen? ⟨g, L * 2 + 1, none⟩ = false := fun W h0 => by
          have h : OwnV W w.heap.size (.slice (some ⟨g, 0, none⟩) (A ++ [(⟨ui, up⟩ : V)]).length capq) (A ++ [⟨ui, up⟩]) := by rw [hl1]; exact h0
          obtain ⟨v1, v2⟩ := vals_at (A ++ [(⟨ui, up⟩ : V)]) L (by omega)
          rw [show (A ++ [(⟨ui, up⟩ : V)])[L] = ⟨ui, up⟩ from by subst hL; simp] at v1 v2
          exact ⟨by rw [h.cellAt (L * 2) (by omega), v1], by rw [h.cellAt (L * 2 + 1) (by omega), v2], h.frozenAt _⟩
        have HROW : Hid (_) := hrow
        clear hrow hcs hel htk hsl hacc HB HV HO HOL
        go_wp2_with fail
        generalize wr.alloc (Obj.cells #[Value.int .i64 ci, Value.int .i64 cp] 34) = wn at *
        have hne := bel_some wn
        have HQ : Hid (∀ p : Bel wn, OwnV p.W w.heap.size (.slice (some ⟨g, 0, none⟩) (L + 1) capq) (A ++ [⟨ui, up⟩]) ∧ Below w.heap.size w p.W ∧ wr.heap.size + 1 ≤ p.W.heap.size ∧ p.W.cell? ⟨wr.heap.size, 0, none⟩ = some (.int .i64 ci) ∧ p.W.cell? ⟨wr.heap.size, 1, none⟩ = some (.int .i64 cp)) := fun p =>
          ⟨own_below HO2.out p.h, HB2.out.trans (p.h.mono HB2.out.size), by have := p.h.size; omega, p.cell d1, p.cell d2⟩
        have e1 := fun p : Bel wn => p.cell d1
        have e2 := fun p : Bel wn => p.cell d2
        have e3 := fun p : Bel wn => p.cell (HROW.out wn HO2.out).1
        clear d1 d2 HB2 HO2
        have HNN : Hid (_) := HN.out.trans HST.out
        have HFF : Hid (ui ≠ ci → cp = 0 → vlB d = false ∧ vlL d = []) := fun h1 h2 => HF0.out (by rw [HST.out, if_neg h1, if_pos h2])
        clear HN HST HF0
        have hLz : (0 : Int) ≤ (L : Int) := by omega
        by_cases hi : ui = ci
        · subst hi
          refine wp_region_below (by kernel_rfl) (by kernel_rfl) ?_
          repeat (go_big_quiet_step (fail))
          refine wpQuiet_nil ?_
          intro _ hw'
          obtain ⟨pq, hw''⟩ := hw'
          subst hw''
          obtain ⟨r1, r2, r3, r4, r5⟩ := HQ.out pq
          have HO5 : Hid (OwnV pq.W w.heap.size (.slice (some ⟨g, 0, none⟩) (L + 1) capq) (A ++ [⟨ui, up⟩])) := r1
          have HB5 : Hid (Below w.heap.size w pq.W) := r2
          clear e1 e2 e3 r1 r2 HQ hne
          generalize pq.W = wp at *
          by_cases hp : cp = 0
          · have HYp : Hid (vlf (d.take (k + 1)) = some A) := by show _ = _; rw [HNN.out, if_pos rfl, if_pos hp]
            have HO7 : Hid (OwnV wp w.heap.size (.slice (some ⟨g, 0, none⟩) L capq) A) := own_pop HO5.out hL
            have hak1 : A.length ≤ k + 1 := by omega
            have HB7 : Hid (Below w.heap.size w wp) := HB5
            have hLc : L + 1 ≤ capq := by obtain ⟨_, _, e, _, h, _⟩ := OwnV.o HO5.out; simp only [Value.slice.injEq] at e; omega
            clear HNN HFF HROW HSL
            subst hp
            go_wp2
            go_roundw
            case rel =>
              have R : ∃ (k' : Nat) (q : Value) (acc : List V), k' ≤ d.length ∧ Value.int .i64 ((k : Int) + 1) = .int .i64 k' ∧ q = .slice (some ⟨g, 0, none⟩) L capq ∧ acc.length ≤ k' ∧ Hid (vlf (d.take k') = some acc) ∧ Hid (OwnV (wp) w.heap.size q acc) ∧ Hid (Below w.heap.size w (wp)) := ⟨k + 1, _, A, by omega, by go_num, rfl, hak1, HYp, HO7, HB7⟩
              first | exact R | ((repeat apply Exists.intro); exact ⟨R, rfl⟩)
            case measure => simp [intOf]; omega
          · have HYp : Hid (vlf (d.take (k + 1)) = some (A ++ [⟨ui, cp⟩])) := by show _ = _; rw [HNN.out, if_pos rfl, if_neg hp]
            have hak1 : (A ++ [(⟨ui, cp⟩ : V)]).length ≤ k + 1 := by rw [List.length_append, hL]; simp only [List.length_singleton]; omega
            have HB7 : Hid (Below w.heap.size w (wp.setCell ⟨g, L * 2 + 1, none⟩ (.int .i64 cp))) := HB5.out.setCell (p := ⟨g, L * 2 + 1, none⟩) hgB _
            obtain ⟨_, y2, y3⟩ := HROW.out wp HO5.out
            have HO7 : Hid (OwnV (wp.setCell ⟨g, L * 2 + 1, none⟩ (.int .i64 cp)) w.heap.size (.slice (some ⟨g, 0, none⟩) (L + 1) capq) (A ++ [⟨ui, cp⟩])) := by
              have := own_setp (x := cp) (k := L) (by rw [hl1]; exact HO5.out) (by omega)
              rw [HSL.out, hl1] at this
              exact this
            clear HNN HFF HROW HSL
            go_wp2
            go_roundw
            case rel =>
              have R : ∃ (k' : Nat) (q : Value) (acc : List V), k' ≤ d.length ∧ Value.int .i64 ((k : Int) + 1) = .int .i64 k' ∧ q = .slice (some ⟨g, 0, none⟩) (L + 1) capq ∧ acc.length ≤ k' ∧ Hid (vlf (d.take k') = some acc) ∧ Hid (OwnV (wp.setCell ⟨g, L * 2 + 1, none⟩ (.int .i64 cp)) w.heap.size q acc) ∧ Hid (Below w.heap.size w (wp.setCell ⟨g, L * 2 + 1, none⟩ (.int .i64 cp))) := ⟨k + 1, _, A ++ [(⟨ui, cp⟩ : V)], by omega, by go_num, rfl, hak1, HYp, HO7, HB7⟩
              first | exact R | ((repeat apply Exists.intro); exact ⟨R, rfl⟩)
            case measure => simp [intOf]; omega
        · refine wp_region_below (by kernel_rfl) (by kernel_rfl) ?_
          repeat (go_big_quiet_step (fail))
          refine wpQuiet_nil ?_
          intro _ hw'
          obtain ⟨pq, hw''⟩ := hw'
          subst hw''
          obtain ⟨r1, r2, r3, r4, r5⟩ := HQ.out pq
          have HO5 : Hid (OwnV pq.W w.heap.size (.slice (some ⟨g, 0, none⟩) (L + 1) capq) (A ++ [⟨ui, up⟩])) := r1
          have HB5 : Hid (Below w.heap.size w pq.W) := r2
          clear e1 e2 e3 r1 r2 HQ hne
          generalize pq.W = wp at *
          have HY : Hid (¬ cp = 0 → vlf (d.take (k + 1)) = some (A ++ [⟨ui, up⟩] ++ [⟨ci, cp⟩])) := fun h => by rw [HNN.out, if_neg hi, if_neg h]
          have HZ : Hid (cp = 0 → vlB d = false ∧ vlL d = []) := fun h => HFF.out hi h
          clear HNN HFF HROW HSL
          by_cases hp : cp = 0
          · have HZp : Hid (vlB d = false ∧ vlL d = []) := HZ.out hp
            clear HZ HY
            subst hp
            go_wp2
            go_ret2
            rw [HZp.out.1, HZp.out.2]
            exact ⟨_, rfl, OwnV.nil _ _, HB5⟩
          · have HO6 : Hid (OwnV (wp.alloc (.cells #[.int .i64 ci, .int .i64 cp] 34)) w.heap.size (.slice (some ⟨g, 0, none⟩) (L + 1) capq) ((A ++ [(⟨ui, up⟩ : V)]))) := World.ownsRow.alloc HO5.out _
            have HC : Hid (_) := one_val wp ⟨ci, cp⟩ wp.heap.size rfl
            have hsw : w.heap.size ≤ wp.heap.size := HB5.out.size
            go_wp2_with (at_builtin; refine wpList_append_own _ rfl _ _ 24 rfl w.heap.size 34 i0 (.agg #[.int .i64 0, .int .i64 0]) 2 16 Try.underlying24 hinf hz0 hz1 hz2 rfl (by decide) _ _ _ rfl HO6.out ⟨wp.heap.size, 0, none⟩ 1 1 (vals [⟨ci, cp⟩]) rfl rfl HC.out (vals_one _) (by unfold maxLen; omega) (by omega) (by simp; omega) ?_)
            intro v' w4 hown' hgrow _
            have HO7 : Hid (OwnV w4 w.heap.size v' ((A ++ [(⟨ui, up⟩ : V)]) ++ [⟨ci, cp⟩])) := own_snocV (by first | exact hown' | (rw [hl1]; exact hown'))
            have HB7 : Hid (Below w.heap.size w w4) := (HB5.out.alloc HB5.out.size (.cells #[.int .i64 ci, .int .i64 cp] 34)).grown hgrow (by simp; omega) (fun j hj => (HO5.out.lt j hj).1)
            clear hgrow hown' HC HO6 HO5 HB5
            have HYp : Hid (vlf (d.take (k + 1)) = some ((A ++ [(⟨ui, up⟩ : V)]) ++ [(⟨ci, cp⟩ : V)])) := HY.out hp
            have hak1 : ((A ++ [(⟨ui, up⟩ : V)]) ++ [(⟨ci, cp⟩ : V)]).length ≤ k + 1 := by rw [List.length_append]; simp only [List.length_singleton]; omega
            clear HY HZ
            go_wp2
            go_roundw
            case rel =>
              have R : ∃ (k' : Nat) (q : Value) (acc : List V), k' ≤ d.length ∧ Value.int .i64 ((k : Int) + 1) = .int .i64 k' ∧ q = v' ∧ acc.length ≤ k' ∧ Hid (vlf (d.take k') = some acc) ∧ Hid (OwnV w4 w.heap.size q acc) ∧ Hid (Below w.heap.size w w4) := ⟨k + 1, _, (A ++ [(⟨ui, up⟩ : V)]) ++ [(⟨ci, cp⟩ : V)], by omega, by go_num, rfl, hak1, HYp, HO7, HB7⟩
              first | exact R | ((repeat apply Exists.intro); exact ⟨R, rfl⟩)
            case measure => simp [intOf]; omega
    · have hltz : ¬ (k : Int) < (d.length : Int) := by omega
      have HF : Hid (vlB d = true ∧ vlL d = acc) := by
        have : vlf d = some acc := by rw [← HV.out, List.take_of_length_le (by omega)]
        show _ ∧ _
        unfold vlB vlL; rw [this]; exact ⟨rfl, rfl⟩
      go_wp2
      go_ret2
      rw [HF.out.1, HF.out.2]
      exact ⟨_, rfl, HO, HB⟩
end Go.Proofs.Ytaeokecodejpdaa
