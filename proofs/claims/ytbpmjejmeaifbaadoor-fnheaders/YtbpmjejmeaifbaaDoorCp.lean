/- What spec.ShowCommit answers; old memory stays. Conditions: rows that a machine can hold. -/
import Derived.Test.YtbpmjejmeaifbaaDoorCw
import Derived.Test.YtbpmjejmeaifbaaDoorMD
namespace Go.Proofs.YtbpmjejmeaifbaaDoor
open Go.RowKit
open Num
set_option linter.unusedVariables false
theorem shG_le (l : List Sg) (k : Nat) (hk : k ≤ l.length) (h12 : l.length ≤ 12) (a : ByteArray) (ha : a.size ≤ 36) (h : ∀ j (hj : j < l.length), j < k → sgB l[j] = true) : (shG a (l.take k)).size ≤ 300 := by
  have := shG_size (l.take k) (fun y hy => by
    obtain ⟨j, hj, rfl⟩ := List.getElem_of_mem hy
    rw [List.length_take] at hj
    rw [List.getElem_take]
    exact ((sgB_iff _).1 (h j (by omega) (by omega))).2) a
  rw [List.length_take] at this
  omega
theorem shG_take (l : List Sg) (k : Nat) (hk : k < l.length) (a : ByteArray) : shG a (l.take (k + 1)) = shG a (l.take k) ++ var l[k].v ++ pc l[k].s := by
  rw [List.take_succ_eq_append_getElem hk, shG_snoc]
set_option maxHeartbeats 1600000 in
theorem spec_showC (x : Ct) (a : Option Addr) (cap : Nat) (w : World) (hl : SO w a x.l) (hs : SzOk x) :
    Calls Tryd.prog 17 #[cV x a cap] w fun e w' => e = .returned (.string (showC x)) ∧ Below w.heap.size w w' := by
  have HL : Hid (SO w a x.l) := hl
  have hlen := hs.2.1
  have HZ3 : Hid (∀ y ∈ x.l, y.s.size ≤ 9223372036854775807) := hs.2.2
  clear hl hs
  have HX : Hid (Blk (w.alloc (.cells (ccs x a cap).toArray 33)) w.heap.size (ccs x a cap) 33) := blk_new w _ _
  have HB : Hid (Below w.heap.size w (w.alloc (.cells (ccs x a cap).toArray 33))) := below_one _ _
  have k9 := fun W => spec_l9v x a cap 1 W
  have kO := fun W => spec_vok ⟨x.h, x.r, 2, x.i, 1⟩ W
  rw [vo_hd] at kO
  have HO : Hid (hdB x.h x.r x.i = false → showC x = ⟨#[]⟩) := fun h => showC_no (cOk_h h)
  have HM : Hid (¬ x.l.length ≤ 12 → showC x = ⟨#[]⟩) := fun h => showC_no (cOk_m h)
  have HG : Hid (∀ j (hj : j < x.l.length), sgB x.l[j] = false → showC x = ⟨#[]⟩) := fun j hj h => showC_no (cOk_g hj h)
  have HY : Hid (hdB x.h x.r x.i = true → x.l.length ≤ 12 → (∀ j (hj : j < x.l.length), sgB x.l[j] = true) → showC x = shG (hdT x) x.l) := fun h1 h2 h3 => showC_yes (cOk_y h1 h2 h3)
  have HI : Hid (hdB x.h x.r x.i = true → x.i.size ≤ 8) := fun h => by have := ((hdB_iff _ _ _).1 h).2.2; omega
  have HT : Hid (hdT x = var x.h ++ var x.r ++ pc x.i ++ var (x.l.length : Int)) := rfl
  generalize showC x = R at *
  generalize hdT x = T at *
  generalize hdB x.h x.r x.i = D at *
  obtain ⟨h, r, i, l⟩ := x
  unfold cV tV at *
  unfold ccs at *
  simp only at HL hlen HX HB k9 kO HM HG HY HZ3 HT HI ⊢
  have x0 := HX.out.cell 0 rfl
  have x1 := HX.out.cell 1 rfl
  have x2 := HX.out.cell 2 rfl
  have x3 := HX.out.cell 3 rfl
  have hw0 : w.heap.size < (w.alloc (Obj.cells #[Value.int .i64 h, Value.int .i64 r, Value.string i, Value.slice a l.length cap] 33)).heap.size := by simp
  cases D
  · go_enter Tryd.func17, Tryd.ntmps17
    go_wp2_with fail
    generalize w.alloc (Obj.cells #[Value.int .i64 h, Value.int .i64 r, Value.string i, Value.slice a l.length cap] 33) = w0 at *
    refine (k9 _).mono ?_
    rintro e w1 ⟨rfl, b1⟩
    go_wp2_with fail
    refine (kO _).mono ?_
    rintro e w2 ⟨rfl, b2⟩
    go_wp2
    go_ret
    exact ⟨by rw [HO.out (by trivial)]; rfl, (HB.out.trans (b1.mono HB.out.size)).trans (b2.mono (HB.out.trans (b1.mono HB.out.size)).size)⟩
  by_cases hm : (12 : Int) < (l.length : Int)
  · go_enter Tryd.func17, Tryd.ntmps17
    go_wp2_with fail
    generalize w.alloc (Obj.cells #[Value.int .i64 h, Value.int .i64 r, Value.string i, Value.slice a l.length cap] 33) = w0 at *
    refine (k9 _).mono ?_
    rintro e w1 ⟨rfl, b1⟩
    go_wp2_with fail
    refine (kO _).mono ?_
    rintro e w2 ⟨rfl, b2⟩
    have HB2 : Hid (Below w0.heap.size w0 w2) := b1.trans (b2.mono b1.size)
    have y3 := (HX.out.below HB2.out hw0).cell 3 rfl
    clear x0 x1 x2 x3 b1 b2
    go_wp2
    go_ret
    exact ⟨by rw [HM.out (by omega)]; rfl, HB.out.trans (HB2.out.mono HB.out.size)⟩
  have hi8 := HI.out (by trivial)
  have HY2 : Hid ((∀ j (hj : j < l.length), sgB l[j] = true) → R = shG T l) := HY.out (by trivial) (by omega)
  have hT : T.size ≤ 36 := by
    have := var_size h
    have := var_size r
    have := pc_size i
    have := var_size (l.length : Int)
    rw [HT.out]
    simp only [ByteArray.size_append]; omega
  clear HY HO HM HI
  have z1 := var_size h
  have z2 := var_size r
  have z3 := pc_size i
  have z4 := var_size (l.length : Int)
  have e2 := ByteArray.size_append (a := var h) (b := var r)
  have e3 := ByteArray.size_append (a := var h ++ var r) (b := pc i)
  have m2 : ¬ 9223372036854775807 < (var h).size + (var r).size := by omega
  have m3 : ¬ 9223372036854775807 < (var h ++ var r).size + (pc i).size := by omega
  have m4 : ¬ 9223372036854775807 < (var h ++ var r ++ pc i).size + (var (l.length : Int)).size := by omega
  have y2 : i.size ≤ 1099511627776 := by omega
  clear z1 z2 z3 z4 e2 e3 hi8
  go_enter Tryd.func17, Tryd.ntmps17
  go_wp2_with fail
  generalize w.alloc (Obj.cells #[Value.int .i64 h, Value.int .i64 r, Value.string i, Value.slice a l.length cap] 33) = w0 at *
  refine (k9 _).mono ?_
  rintro e w1 ⟨rfl, b1⟩
  go_wp2_with fail
  refine (kO _).mono ?_
  rintro e w2 ⟨rfl, b2⟩
  have HB2 : Hid (Below w0.heap.size w0 w2) := b1.trans (b2.mono b1.size)
  have HX2 : Hid (Blk w2 w.heap.size [Value.int .i64 h, Value.int .i64 r, Value.string i, Value.slice a l.length cap] 33) := HX.out.below HB2.out hw0
  have y3 := HX2.out.cell 3 rfl
  have HB3 : Hid (Below w.heap.size w w2) := HB.out.trans (HB2.out.mono HB.out.size)
  clear x0 x1 x2 x3 b1 b2 HB2 HX HB hw0 k9 kO
  have hne := bel_some w2
  have c0 := fun p : Bel w2 => p.cell (HX2.out.cell 0 rfl)
  have c1 := fun p : Bel w2 => p.cell (HX2.out.cell 1 rfl)
  have c2 := fun p : Bel w2 => p.cell (HX2.out.cell 2 rfl)
  have c3 := fun p : Bel w2 => p.cell (HX2.out.cell 3 rfl)
  go_wp2_with fail
  refine wp_region_below (by kernel_rfl) (by kernel_rfl) ?_
  repeat (go_big_quiet_step (first | (go_at_call 46; exact bel_of (spec_var _ _)) | (go_at_call 47; exact bel_of (spec_piece _ _ (by assumption)))))
  refine wpQuiet_nil ?_
  intro _ hw'
  obtain ⟨pq, hw''⟩ := hw'
  subst hw''
  have HB4 : Hid (Below w.heap.size w pq.W) := HB3.out.trans (pq.h.mono HB3.out.size)
  have HX4 : Hid (Blk pq.W w.heap.size [Value.int .i64 h, Value.int .i64 r, Value.string i, Value.slice a l.length cap] 33) := HX2.out.below pq.h HX2.out.lt
  generalize pq.W = w4 at *
  clear pq c0 c1 c2 c3 y3 HX2 HB3 m2 m3 m4 hne
  rw [← HT.out]
  go_wp2
  go_loopw [4, 3] (fun iv sv wr => ∃ (k : Nat) (s : ByteArray), k ≤ l.length ∧ iv = .int .i64 k ∧ sv = .string s ∧ Hid (s = shG T (l.take k)) ∧ Hid (∀ j (hj : j < l.length), j < k → sgB l[j] = true) ∧ Below w.heap.size w wr ∧ Hid (Blk wr w.heap.size [Value.int .i64 h, Value.int .i64 r, Value.string i, Value.slice a l.length cap] 33)) (fun iv _ _ => l.length - (intOf iv).toNat)
  case atStart => exact ⟨0, T, Nat.zero_le _, rfl, rfl, rfl, fun j hj h => absurd h (by omega), HB4.out, HX4⟩
  case round =>
    obtain ⟨k, s, hk, rfl, rfl, HS, HA, hb, HXr⟩ := hrel
    clear HX4 HB4
    have x3 := HXr.out.cell 3 rfl
    by_cases hlt : k < l.length
    · have hltz : (k : Int) < (l.length : Int) := by omega
      rcases HL.out with h0 | ⟨b, o, rfl, hS⟩
      · omega
      have hS' := hS.below hb (hS.lt (by omega))
      obtain ⟨c1, c2⟩ := hS' k hlt
      clear hS hS'
      have hz := HZ3.out _ (List.getElem_mem hlt)
      have HGk : Hid (sgB l[k] = false → R = ⟨#[]⟩) := HG.out k hlt
      have HT1 : Hid (shG T (l.take (k + 1)) = s ++ var l[k].v ++ pc l[k].s) := by show _ = _; rw [HS.out]; exact shG_take l k hlt T
      have hs3 := shG_le l k hk (by omega) T hT HA.out
      rw [← HS.out] at hs3
      obtain ⟨y, hy⟩ : ∃ y, l[k] = y := ⟨_, rfl⟩
      rw [hy] at c1 c2 hz HGk HT1
      have HN : Hid (sgB y = true → ∀ j (hj : j < l.length), j < k + 1 → sgB l[j] = true) := fun e j hj h => by
        by_cases e1 : j = k
        · subst e1; rw [hy]; exact e
        · exact HA.out j hj (by omega)
      have HE : Hid (sgB y = (inIs y.v 1 99 && decide (y.s.size ≤ 8))) := rfl
      have kI := fun W => spec_in y.v 1 99 W
      clear hy
      generalize sgB y = t at *
      generalize inIs y.v 1 99 = b0 at *
      obtain ⟨yv, ys⟩ := y
      simp only at c1 c2 hz HT1 HE kI
      cases b0
      · have HR : Hid (R = ⟨#[]⟩) := HGk.out (by rw [HE.out]; rfl)
        go_wp2_with fail
        refine (kI _).mono ?_
        rintro e w3 ⟨rfl, rfl⟩
        go_wp2
        go_ret
        exact ⟨by rw [HR.out]; rfl, hb⟩
      by_cases h8 : (8 : Int) < (ys.size : Int)
      · have HR : Hid (R = ⟨#[]⟩) := HGk.out (by rw [HE.out, Bool.true_and, decide_eq_false_iff_not]; omega)
        go_wp2_with fail
        refine (kI _).mono ?_
        rintro e w3 ⟨rfl, rfl⟩
        go_wp2
        go_ret
        exact ⟨by rw [HR.out]; rfl, hb⟩
      · have HN2 := HN.out (by rw [HE.out, Bool.true_and, decide_eq_true_eq]; omega)
        have HN3 : Hid (∀ j (hj : j < l.length), j < k + 1 → sgB l[j] = true) := HN2
        clear HN2 HN HGk HE
        have z1 := var_size yv
        have z2 := pc_size ys
        have e2 := ByteArray.size_append (a := s) (b := var yv)
        have m2 : ¬ 9223372036854775807 < s.size + (var yv).size := by omega
        have m3 : ¬ 9223372036854775807 < (s ++ var yv).size + (pc ys).size := by omega
        have y2 : ys.size ≤ 1099511627776 := by omega
        clear z1 z2 e2 hs3
        go_wp2_with fail
        refine (kI _).mono ?_
        rintro e w3 ⟨rfl, rfl⟩
        have hne := bel_some w3
        have p1 := fun p : Bel w3 => p.cell c1
        have p2 := fun p : Bel w3 => p.cell c2
        have p3 := fun p : Bel w3 => p.cell x3
        go_wp2_with fail
        clear c1 c2 x3 kI
        refine wp_region_below (by kernel_rfl) (by kernel_rfl) ?_
        repeat (go_big_quiet_step (first | (go_at_call 46; exact bel_of (spec_var _ _)) | (go_at_call 47; exact bel_of (spec_piece _ _ (by assumption)))))
        refine wpQuiet_nil ?_
        intro _ hw'
        obtain ⟨pq, hw''⟩ := hw'
        subst hw''
        have hb3 := hb.trans (pq.h.mono hb.size)
        have HX5 : Hid (Blk pq.W w.heap.size [Value.int .i64 h, Value.int .i64 r, Value.string i, Value.slice (some ⟨b, o, none⟩) l.length cap] 33) := HXr.out.below pq.h HXr.out.lt
        go_wp2
        go_roundw
        case rel => exact ⟨k + 1, _, by omega, by go_num, rfl, HT1.out.symm, HN3, hb3, HX5⟩
        case measure => simp [intOf]; omega
    · have hltz : ¬ (k : Int) < (l.length : Int) := by omega
      have HF : Hid (R = s) := by show _ = _; rw [HY2.out fun j hj => HA.out j hj (by omega), HS.out, List.take_of_length_le (by omega)]
      go_wp2
      go_ret
      exact ⟨by rw [HF.out]; rfl, hb⟩
end Go.Proofs.YtbpmjejmeaifbaaDoor
