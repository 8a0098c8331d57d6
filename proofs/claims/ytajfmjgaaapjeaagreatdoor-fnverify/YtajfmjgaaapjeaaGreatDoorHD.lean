/- What FnVerify asks in plain terms: what is verified hangs on the anchor, is verified no second time, and another Data is told; like rows are the same. Conditions: what a machine can hold. FnVerify at every code of at most 2 to the 20 bytes: true; old memory stays. Conditions: the listed variables lie where they should. FnVerify at every code: true, whatever its size; and a code that came in. -/
import Derived.Test.YtajfmjgaaapjeaaGreatDoorHC
import Derived.Test.YtajfmjgaaapjeaaGreatDoorGC
import Derived.BigQuiet
import Derived.Test.YtajfmjgaaapjeaaGreatDoorCu
import Derived.Deep.DeepCutAuto
import Derived.Deep.CutBlock
import Derived.Test.YtajfmjgaaapjeaaGreatDoorPk
import Derived.Test.YtajfmjgaaapjeaaGreatDoorG3
namespace Go.Proofs.YtajfmjgaaapjeaaGreatDoor
open Go.RowKit
open Num
set_option linter.unusedVariables false
theorem com_en {l : List V} {y : H} {x : Ct} (h : comOk l y x = true) : enough l (cv x) = true ∧ x.i = headI y := by
  unfold comOk at h
  simp only [Bool.and_eq_true, decide_eq_true_eq] at h
  exact ⟨h.2.2.2.2.2, h.2.2.2.1⟩
theorem ver_facts {t : Tr} {a : An} {x : H} {nx : List V} {c : Ct} {n : Int} (h : verN t a x nx c n = 0) :
    timeN t a x n = 0 ∧ x.h = a.x.h + 1 ∧ ¬ x.t ≤ a.x.t ∧ x.a = headI a.x ∧ x.v = a.x.n ∧ (vOk nx = true ∧ x.n = hashV nx) ∧ comOk a.l x c = true := by
  unfold verN at h
  by_cases h0 : timeN t a x n = 0
  · rw [if_pos h0] at h
    unfold placeN at h
    by_cases h1 : x.h = a.x.h + 1
    · rw [if_pos h1] at h
      by_cases h2 : x.t ≤ a.x.t
      · rw [if_pos h2] at h; exact absurd h (by decide)
      · rw [if_neg h2] at h
        by_cases h3 : x.a = headI a.x
        · rw [if_pos h3] at h
          by_cases h4 : x.v = a.x.n
          · rw [if_pos h4] at h
            by_cases h5 : vOk nx = true ∧ x.n = hashV nx
            · rw [if_pos h5] at h
              by_cases h6 : comOk a.l x c = true
              · exact ⟨h0, h1, h2, h3, h4, h5, h6⟩
              · rw [if_neg h6] at h; exact absurd h (by decide)
            · rw [if_neg h5] at h; exact absurd h (by decide)
          · rw [if_neg h4] at h; exact absurd h (by decide)
        · rw [if_neg h3] at h; exact absurd h (by decide)
    · rw [if_neg h1] at h; exact absurd h (by decide)
  · rw [if_neg h0] at h; exact absurd h h0
theorem ver_anchor {t : Tr} {a : An} {x : H} {nx : List V} {c : Ct} {n : Int} (h : verN t a x nx c n = 0) : aOk ⟨x, nx⟩ = true := by
  obtain ⟨h0, _, _, _, _, h5, _⟩ := ver_facts h
  obtain ⟨_, _, r3, _⟩ := right_all (time_zero h0)
  unfold aOk
  show (hOk x && (vOk nx && decide (hashV nx = x.n))) = true
  rw [r3, h5.1, decide_eq_true h5.2.symm]; rfl
theorem ver_again {t : Tr} {a : An} {x : H} {nx : List V} {c : Ct} {n : Int} (h : verN t a x nx c n = 0) : verN t ⟨x, nx⟩ x nx c n = 4 := by
  obtain ⟨h0, h1, h2, h3, h4, h5, h6⟩ := ver_facts h
  have hr := time_zero h0
  obtain ⟨r1, r2, r3, r4⟩ := right_all hr
  have hr2 : rightN t ⟨x, nx⟩ x n = true := by
    unfold rightN
    rw [r1, ver_anchor h, r3, r4]; rfl
  have ht : timeN t ⟨x, nx⟩ x n = 0 := by
    unfold timeN at h0 ⊢
    rw [if_pos hr] at h0
    rw [if_pos hr2]
    have k := right_nums hr
    by_cases q1 : a.x.t + t.p < n
    · rw [if_pos q1] at h0; exact absurd h0 (by decide)
    · rw [if_neg q1] at h0
      by_cases q2 : n + t.s < x.t
      · rw [if_pos q2] at h0; exact absurd h0 (by decide)
      · rw [if_neg (by show ¬ (x.t + t.p < n); omega), if_neg q2]
  unfold verN
  rw [if_pos ht]
  unfold placeN
  rw [if_neg (by show ¬ (x.h = x.h + 1); omega)]
theorem ver_bent {t : Tr} {a : An} {x : H} {nx : List V} {c : Ct} {n : Int} (h : verN t a x nx c n = 0) (d : ByteArray) (hd : d.size ≤ 20) : verN t a ⟨x.h, x.t, x.a, x.v, x.n, d⟩ nx c n = 9 ∨ headI ⟨x.h, x.t, x.a, x.v, x.n, d⟩ = headI x := by
  obtain ⟨h0, h1, h2, h3, h4, h5, h6⟩ := ver_facts h
  have hr := time_zero h0
  obtain ⟨r1, r2, r3, r4⟩ := right_all hr
  have hg : hOk ⟨x.h, x.t, x.a, x.v, x.n, d⟩ = true := by
    have k := (hOk_iff x).1 r3
    exact (hOk_iff _).2 ⟨k.1, k.2.1, k.2.2.1, k.2.2.2.1, k.2.2.2.2.1, hd, k.2.2.2.2.2.2.1, k.2.2.2.2.2.2.2⟩
  have hr2 : rightN t a ⟨x.h, x.t, x.a, x.v, x.n, d⟩ n = true := by
    unfold rightN
    rw [r1, r2, hg, r4]; rfl
  have ht : timeN t a ⟨x.h, x.t, x.a, x.v, x.n, d⟩ n = 0 := by
    unfold timeN at h0 ⊢
    rw [if_pos hr] at h0
    rw [if_pos hr2]; exact h0
  by_cases hc : comOk a.l ⟨x.h, x.t, x.a, x.v, x.n, d⟩ c = true
  · exact .inr ((com_en hc).2.symm.trans (com_en h6).2)
  · left
    unfold verN
    rw [if_pos ht]
    unfold placeN
    dsimp only
    rw [if_pos h1, if_neg h2, if_pos h3, if_pos h4, if_pos h5, if_neg hc]
theorem stoodH : Tryz.prog.stoodInHeld 27 = false := by kernel_rfl
theorem guardH : Tryz.prog.eqGuardType Tryz.prog.depth 27 = false := by kernel_rfl
theorem fieldsH : Tryz.prog.underlying 27 = some (.struct (Tryz.prog.fieldsOf 27)) := by
  unfold Program.fieldsOf; rw [Tryz.underlying27]
theorem run_eqH (h t : Int) (a v n d : ByteArray) (w : World) :
    (binOp .eql 27 (.agg #[.int .i64 h, .int .i64 t, .string a, .string v, .string n, .string d]) (.agg #[.int .i64 h, .int .i64 t, .string a, .string v, .string n, .string d])).run Tryz.prog w = .ok (.bool true) w := by
  rw [run_eql_struct, run_equalIn_agg w 9999 27 _ _ fieldsH stoodH]
  simp [go_sem, Program.fieldsOf, Tryz.underlying27, Tryz.underlying3, Tryz.underlying9, Op.eqFields]
set_option maxHeartbeats 400000 in
set_option maxRecDepth 100000 in
theorem big_any (a : Option Addr) (len cap : Nat) (w : World) (hm : len ≤ 9223372036854775807) :
    Calls Tryz.prog 5 #[.slice a len cap] w fun e w' => e = .returned (.bool (decide ((1048576 : Int) < (len : Int)))) ∧ w' = w := by
  go_enter Tryz.func5, Tryz.ntmps5
  go_wp2
  go_ret
  exact ⟨rfl, rfl⟩
set_option maxHeartbeats 800000 in
set_option maxRecDepth 100000 in
theorem same_any (a a' : Option Addr) (l : List V) (cap cap' : Nat) (w : World) (hl : VO w a l) (hl' : VO w a' l) (h1 : l.length ≤ 1099511627776) :
    Calls Tryz.prog 9 #[.slice a l.length cap, .slice a' l.length cap'] w fun e w' => e = .returned (.bool true) ∧ Below w.heap.size w w' := by
  have HL : Hid (VO w a l) := hl
  have HL' : Hid (VO w a' l) := hl'
  clear hl hl'
  go_enter Tryz.func9, Tryz.ntmps9
  go_wp2
  go_loopw [5] (fun iv wr => ∃ k : Nat, k ≤ l.length ∧ iv = .int .i64 k ∧ Below w.heap.size w wr) (fun iv _ => l.length - (intOf iv).toNat)
  case atStart => exact ⟨0, Nat.zero_le _, rfl, Below.refl _ _⟩
  case round =>
    obtain ⟨k, hk, rfl, hb⟩ := hrel
    by_cases hlt : k < l.length
    · have hltz : (k : Int) < (l.length : Int) := by omega
      rcases HL.out with h0 | ⟨b, o, rfl, hv0⟩
      · omega
      rcases HL'.out with h0 | ⟨b', o', rfl, hv0'⟩
      · omega
      have hn := bel_some wr
      obtain ⟨vi, hi⟩ : ∃ v, l[k].i = v := ⟨_, rfl⟩
      obtain ⟨vp, hp⟩ : ∃ v, l[k].p = v := ⟨_, rfl⟩
      have c1 := fun p : Bel wr => p.cell ((hv0.below hb) k hlt).1
      have c2 := fun p : Bel wr => p.cell ((hv0.below hb) k hlt).2
      have c3 := fun p : Bel wr => p.cell ((hv0'.below hb) k hlt).1
      have c4 := fun p : Bel wr => p.cell ((hv0'.below hb) k hlt).2
      rw [hi] at c1 c3
      rw [hp] at c2 c4
      clear hv0 hv0' hi hp
      go_wp2_with fail
      refine wp_region_below (by kernel_rfl) (by kernel_rfl) ?_
      repeat (go_big_quiet_step (fail))
      refine wpQuiet_nil ?_
      intro _ hw'
      obtain ⟨pq, hw''⟩ := hw'
      subst hw''
      have hb3 := hb.trans (pq.h.mono hb.size)
      clear c1 c2 c3 c4
      go_wp2
      go_roundw
      case rel => exact ⟨k + 1, by omega, by go_num, hb3⟩
      case measure => simp [intOf]; omega
    · have hltz : ¬ (k : Int) < (l.length : Int) := by omega
      go_wp2
      go_ret
      exact ⟨rfl, hb⟩
end Go.Proofs.YtajfmjgaaapjeaaGreatDoor
namespace Go.Proofs.YtajfmjgaaapjeaaGreatDoor
open Go.RowKit
open Num
set_option linter.unusedVariables false
/-- What was drawn, in its blocks and rows; old memory stands. -/
def FvS (w1 W : World) (t : Tr) (y : H) (l : List V) (u : Option Addr) (cu : Nat) (x : H) (nx : List V) (un : Option Addr) (c : Ct) (uc : Option Addr) (cc : Nat) : Prop := Fou w1 W t y (.slice u l.length cu) x c uc cc ∧ VO W u l ∧ VO W un nx ∧ SO W uc c.l ∧ Tab W
theorem FvS.step {w1 W : World} {t : Tr} {y : H} {l : List V} {u : Option Addr} {cu : Nat} {x : H} {nx : List V} {un : Option Addr} {c : Ct} {uc : Option Addr} {cc : Nat} {W' : World} (h : FvS w1 W t y l u cu x nx un c uc cc) (hb : Below W.heap.size W W') : FvS w1 W' t y l u cu x nx un c uc cc :=
  ⟨h.1.step hb, h.2.1.below hb, h.2.2.1.below hb, SO.below h.2.2.2.1 hb, h.2.2.2.2.below hb h.2.2.2.2.pos⟩
theorem OwnV.slc {w : World} {B n cu : Nat} {u : Option Addr} {l : List V} (h : OwnV w B (.slice u n cu) l) : VO w u l ∧ (u = none → cu = 0) := by
  obtain ⟨a, cap, e, h1, h2, _⟩ := h.nn
  injection e with e1 _ e3
  subst e1
  subst e3
  exact ⟨h1, h2⟩
theorem DrX.sml {x : H} (h : DrX x) : Sml x := by
  obtain ⟨_, _, _, _, h1, h2, h3, h4⟩ := h
  exact ⟨by omega, by omega, by omega, by omega⟩
theorem DrY.sml {x : H} (h : DrY x) : Sml x := by
  obtain ⟨_, _, _, _, h1, h2, h3, h4⟩ := h
  exact ⟨by omega, by omega, by omega, by omega⟩
set_option maxHeartbeats 12800000 in
set_option maxRecDepth 100000 in
theorem fn_verify (a : Option Addr) (L : List UInt8) (cap : Nat) (w : World) (hl : CodeAt w w.heap.size a L) (hT : Tab w) (hlen : L.length ≤ 1048576) :
    Calls Tryz.prog 3 #[.slice a L.length cap] w fun e w' => e = .returned (.bool true) ∧ Below w.heap.size w w' := by
  have HL0 : Hid (CodeAt w w.heap.size a L) := hl
  have HT0 : Hid (Tab w) := hT
  have kB := big_any a L.length cap w (by omega)
  rw [decide_eq_false (by omega)] at kB
  have kd := draw_verify a L cap w hl hlen
  unfold trV aV hV cV at kd
  clear hl hT
  go_enter Tryz.func3, Tryz.ntmps3
  go_wp2_with fail
  refine kB.mono ?_
  clear kB
  rintro e w0 ⟨rfl, rfl⟩
  go_wp2_with fail
  refine kd.mono ?_
  rintro e w1 ⟨⟨tp, ts⟩, ⟨yh, yt, ya, yv, yn, yd⟩, l, u, cu, ⟨xh, xt, xa, xv, xn, xd⟩, nx, un, cn, ⟨ch, cr, ci, cl⟩, uc, cc, z, rfl, HX, HY, HR, HN, HS, HBa⟩
  clear kd
  try simp only at HX HY HS
  have HB : Hid (Below w0.heap.size w0 w1) := HBa
  have HT1 : Hid (Tab w1) := HT0.out.below HBa HT0.out.pos
  have hl8 : Hid (l.length ≤ 8) := HR.out.2.1
  have hn8 : Hid (nx.length ≤ 8) := HN.out.2.1
  have hc8 : Hid (cl.length ≤ 8) := HS.out.2.1
  have hun : Hid (un = none → cn = 0) := HN.out.2.2.1
  have hsy := HX.out.sml
  have hsx := HY.out.sml
  have kV4 := fun W (h : FvS w1 W ⟨tp, ts⟩ ⟨yh, yt, ya, yv, yn, yd⟩ l u cu ⟨xh, xt, xa, xv, xn, xd⟩ nx un ⟨ch, cr, ci, cl⟩ uc cc) => impl_verify ⟨tp, ts⟩ ⟨yh, yt, ya, yv, yn, yd⟩ l u cu ⟨xh, xt, xa, xv, xn, xd⟩ nx un cn ⟨ch, cr, ci, cl⟩ uc cc z W h.2.1 HR.out.2.2.1 h.2.2.1 hun.out h.2.2.2.1 (by have := hl8.out; omega) (by have := hn8.out; omega) (by show cl.length ≤ _; have := hc8.out; omega) h.2.2.2.2 hsy hsx
  have kV5 := fun W (h : FvS w1 W ⟨tp, ts⟩ ⟨yh, yt, ya, yv, yn, yd⟩ l u cu ⟨xh, xt, xa, xv, xn, xd⟩ nx un ⟨ch, cr, ci, cl⟩ uc cc) => spec_verify ⟨tp, ts⟩ ⟨yh, yt, ya, yv, yn, yd⟩ l u cu ⟨xh, xt, xa, xv, xn, xd⟩ nx un cn ⟨ch, cr, ci, cl⟩ uc cc z W h.2.1 HR.out.2.2.1 h.2.2.1 hun.out h.2.2.2.1 (by have := hl8.out; omega) (by have := hn8.out; omega) (by show cl.length ≤ _; have := hc8.out; omega)
  have H0 : FvS w1 (fouW w1 ⟨tp, ts⟩ ⟨yh, yt, ya, yv, yn, yd⟩ (.slice u l.length cu) ⟨xh, xt, xa, xv, xn, xd⟩ ⟨ch, cr, ci, cl⟩ uc cc) ⟨tp, ts⟩ ⟨yh, yt, ya, yv, yn, yd⟩ l u cu ⟨xh, xt, xa, xv, xn, xd⟩ nx un ⟨ch, cr, ci, cl⟩ uc cc :=
    (fun hF : Fou w1 _ ⟨tp, ts⟩ ⟨yh, yt, ya, yv, yn, yd⟩ (.slice u l.length cu) ⟨xh, xt, xa, xv, xn, xd⟩ ⟨ch, cr, ci, cl⟩ uc cc => ⟨hF, HR.out.1.below hF.2.2.2.2, HN.out.1.below hF.2.2.2.2, SO.below HS.out.1 hF.2.2.2.2, HT1.out.below hF.2.2.2.2 HT1.out.pos⟩) (fou_new w1 ⟨tp, ts⟩ ⟨yh, yt, ya, yv, yn, yd⟩ (.slice u l.length cu) ⟨xh, xt, xa, xv, xn, xd⟩ ⟨ch, cr, ci, cl⟩ uc cc)
  have hflat : ∀ W, FvS w1 W ⟨tp, ts⟩ ⟨yh, yt, ya, yv, yn, yd⟩ l u cu ⟨xh, xt, xa, xv, xn, xd⟩ nx un ⟨ch, cr, ci, cl⟩ uc cc → (W.cell? ⟨w1.heap.size, 0, none⟩ = some (.int .i64 tp) ∧ W.cell? ⟨w1.heap.size, 1, none⟩ = some (.int .i64 ts)) ∧ (W.cell? ⟨w1.heap.size + 1, 0, none⟩ = some (.int .i64 yh) ∧ W.cell? ⟨w1.heap.size + 1, 1, none⟩ = some (.int .i64 yt) ∧ W.cell? ⟨w1.heap.size + 1, 2, none⟩ = some (.string ya) ∧ W.cell? ⟨w1.heap.size + 1, 3, none⟩ = some (.string yv) ∧ W.cell? ⟨w1.heap.size + 1, 4, none⟩ = some (.string yn) ∧ W.cell? ⟨w1.heap.size + 1, 5, none⟩ = some (.string yd) ∧ W.cell? ⟨w1.heap.size + 1, 6, none⟩ = some (.slice u l.length cu)) ∧ (W.cell? ⟨w1.heap.size + 2, 0, none⟩ = some (.int .i64 xh) ∧ W.cell? ⟨w1.heap.size + 2, 1, none⟩ = some (.int .i64 xt) ∧ W.cell? ⟨w1.heap.size + 2, 2, none⟩ = some (.string xa) ∧ W.cell? ⟨w1.heap.size + 2, 3, none⟩ = some (.string xv) ∧ W.cell? ⟨w1.heap.size + 2, 4, none⟩ = some (.string xn) ∧ W.cell? ⟨w1.heap.size + 2, 5, none⟩ = some (.string xd)) ∧ (W.cell? ⟨w1.heap.size + 3, 0, none⟩ = some (.int .i64 ch) ∧ W.cell? ⟨w1.heap.size + 3, 1, none⟩ = some (.int .i64 cr) ∧ W.cell? ⟨w1.heap.size + 3, 2, none⟩ = some (.string ci) ∧ W.cell? ⟨w1.heap.size + 3, 3, none⟩ = some (.slice uc cl.length cc)) := fun W h => ⟨⟨h.1.1.cell 0 rfl, h.1.1.cell 1 rfl⟩, ⟨h.1.2.1.cell 0 rfl, h.1.2.1.cell 1 rfl, h.1.2.1.cell 2 rfl, h.1.2.1.cell 3 rfl, h.1.2.1.cell 4 rfl, h.1.2.1.cell 5 rfl, h.1.2.1.cell 6 rfl⟩, ⟨h.1.2.2.1.cell 0 rfl, h.1.2.2.1.cell 1 rfl, h.1.2.2.1.cell 2 rfl, h.1.2.2.1.cell 3 rfl, h.1.2.2.1.cell 4 rfl, h.1.2.2.1.cell 5 rfl⟩, ⟨h.1.2.2.2.1.cell 0 rfl, h.1.2.2.2.1.cell 1 rfl, h.1.2.2.2.1.cell 2 rfl, h.1.2.2.2.1.cell 3 rfl⟩⟩
  have kb : ∀ W, FvS w1 W ⟨tp, ts⟩ ⟨yh, yt, ya, yv, yn, yd⟩ l u cu ⟨xh, xt, xa, xv, xn, xd⟩ nx un ⟨ch, cr, ci, cl⟩ uc cc → Below w0.heap.size w0 W := fun W h => HB.out.trans (h.1.2.2.2.2.mono HB.out.size)
  unfold fouW trcs acs hcs ccs at H0
  try simp only at H0
  obtain ⟨w2, hw2⟩ : ∃ W, ((((w1.alloc (Obj.cells #[.int .i64 tp, .int .i64 ts] 25)).alloc (Obj.cells #[.int .i64 yh, .int .i64 yt, .string ya, .string yv, .string yn, .string yd, .slice u l.length cu] 30)).alloc (Obj.cells #[.int .i64 xh, .int .i64 xt, .string xa, .string xv, .string xn, .string xd] 27)).alloc (Obj.cells #[.int .i64 ch, .int .i64 cr, .string ci, .slice uc cl.length cc] 33)) = W := ⟨_, rfl⟩
  have HF2 : Hid (FvS w1 w2 ⟨tp, ts⟩ ⟨yh, yt, ya, yv, yn, yd⟩ l u cu ⟨xh, xt, xa, xv, xn, xd⟩ nx un ⟨ch, cr, ci, cl⟩ uc cc) := by rw [← hw2]; exact H0
  clear H0
  by_cases hk : verN ⟨tp, ts⟩ ⟨⟨yh, yt, ya, yv, yn, yd⟩, l⟩ ⟨xh, xt, xa, xv, xn, xd⟩ nx ⟨ch, cr, ci, cl⟩ z = 0
  · have hagain := ver_again hk
    have hbent := ver_bent hk ⟨#[122, 122]⟩ (by decide)
    have hanch := ver_anchor hk
    obtain ⟨_, e1, e2, e3, e4, e5, e6⟩ := ver_facts hk
    have hen := (com_en e6).1
    simp only at e2 e3
    clear e1 e4 e5 e6
    rw [hk] at kV4 kV5
    have en : nextA ⟨⟨yh, yt, ya, yv, yn, yd⟩, l⟩ ⟨xh, xt, xa, xv, xn, xd⟩ nx 0 = ⟨⟨xh, xt, xa, xv, xn, xd⟩, nx⟩ := rfl
    rw [en] at kV4 kV5
    clear en hk
    have kO := fun (u1 : Option Addr) (c1 : Nat) W (h : VO W u1 nx) => spec_anchor ⟨xh, xt, xa, xv, xn, xd⟩ nx u1 c1 W h (by have := hn8.out; omega)
    rw [hanch] at kO
    have kV10 := fun (u1 : Option Addr) (c1 : Nat) W (h1 : VO W u1 nx) (h2 : u1 = none → c1 = 0) (h : FvS w1 W ⟨tp, ts⟩ ⟨yh, yt, ya, yv, yn, yd⟩ l u cu ⟨xh, xt, xa, xv, xn, xd⟩ nx un ⟨ch, cr, ci, cl⟩ uc cc) => impl_verify ⟨tp, ts⟩ ⟨xh, xt, xa, xv, xn, xd⟩ nx u1 c1 ⟨xh, xt, xa, xv, xn, xd⟩ nx un cn ⟨ch, cr, ci, cl⟩ uc cc z W h1 h2 h.2.2.1 hun.out h.2.2.2.1 (by have := hn8.out; omega) (by have := hn8.out; omega) (by show cl.length ≤ _; have := hc8.out; omega) h.2.2.2.2 hsx hsx
    rw [hagain] at kV10
    have en : nextA ⟨⟨xh, xt, xa, xv, xn, xd⟩, nx⟩ ⟨xh, xt, xa, xv, xn, xd⟩ nx 4 = ⟨⟨xh, xt, xa, xv, xn, xd⟩, nx⟩ := rfl
    rw [en] at kV10
    clear en hagain hanch
    have hsg : Sml ⟨xh, xt, xa, xv, xn, ⟨#[122, 122]⟩⟩ := ⟨hsx.1, hsx.2.1, hsx.2.2.1, (by decide : (⟨#[122, 122]⟩ : ByteArray).size ≤ 1048576)⟩
    have kV13 := fun W (h : FvS w1 W ⟨tp, ts⟩ ⟨yh, yt, ya, yv, yn, yd⟩ l u cu ⟨xh, xt, xa, xv, xn, xd⟩ nx un ⟨ch, cr, ci, cl⟩ uc cc) => impl_verify ⟨tp, ts⟩ ⟨yh, yt, ya, yv, yn, yd⟩ l u cu ⟨xh, xt, xa, xv, xn, ⟨#[122, 122]⟩⟩ nx un cn ⟨ch, cr, ci, cl⟩ uc cc z W h.2.1 HR.out.2.2.1 h.2.2.1 hun.out h.2.2.2.1 (by have := hl8.out; omega) (by have := hn8.out; omega) (by show cl.length ≤ _; have := hc8.out; omega) h.2.2.2.2 hsy hsg
    simp only at hbent
    generalize verN ⟨tp, ts⟩ ⟨⟨yh, yt, ya, yv, yn, yd⟩, l⟩ ⟨xh, xt, xa, xv, xn, ⟨#[122, 122]⟩⟩ nx ⟨ch, cr, ci, cl⟩ z = M at *
    generalize nextA ⟨⟨yh, yt, ya, yv, yn, yd⟩, l⟩ ⟨xh, xt, xa, xv, xn, ⟨#[122, 122]⟩⟩ nx M = NA at *
    obtain ⟨⟨gh, gt, ga, gv, gn, gd⟩, gl⟩ := NA
    have kHy := fun W => spec_headid ⟨yh, yt, ya, yv, yn, yd⟩ W
    have kHg := fun W => spec_headid ⟨xh, xt, xa, xv, xn, ⟨#[122, 122]⟩⟩ W
    have kHx := fun W => spec_headid ⟨xh, xt, xa, xv, xn, xd⟩ W
    have kC := fun W (h : FvS w1 W ⟨tp, ts⟩ ⟨yh, yt, ya, yv, yn, yd⟩ l u cu ⟨xh, xt, xa, xv, xn, xd⟩ nx un ⟨ch, cr, ci, cl⟩ uc cc) => spec_cv ⟨ch, cr, ci, cl⟩ uc cc W h.2.2.2.1 (by show cl.length ≤ _; have := hc8.out; omega)
    have kE := fun (ia : Option Addr) (ic : Nat) W (h : FvS w1 W ⟨tp, ts⟩ ⟨yh, yt, ya, yv, yn, yd⟩ l u cu ⟨xh, xt, xa, xv, xn, xd⟩ nx un ⟨ch, cr, ci, cl⟩ uc cc) (hi : Nums W ia (cv ⟨ch, cr, ci, cl⟩)) => spec_enough u l cu ia (cv ⟨ch, cr, ci, cl⟩) ic W h.2.1 hi (by have := hl8.out; omega) (by have := cv_len ⟨ch, cr, ci, cl⟩; have h8 : cl.length ≤ 8 := hc8.out; (try simp only at this); omega)
    simp only at hen
    rw [hen] at kE
    clear hen
    generalize cv ⟨ch, cr, ci, cl⟩ = ids at *
    unfold trV aV hV cV at *
    simp only at kV4 kV5 kV10 kV13 kHy kHg kHx kC kO
    rw [← e3] at kHy
    clear e3
    have e2b : yt < xt := by omega
    clear e2
    obtain ⟨⟨at0, at1⟩, ⟨ay0, ay1, ay2, ay3, ay4, ay5, ay6⟩, ⟨ax0, ax1, ax2, ax3, ax4, ax5⟩, ⟨ac0, ac1, ac2, ac3⟩⟩ := hflat _ HF2.out
    go_wp2_with fail
    try rw [hw2]
    refine (kV4 _ HF2.out).mono ?_
    rintro e w3 ⟨u1, c1, rfl, HO, bb⟩
    clear at0 at1 ay0 ay1 ay2 ay3 ay4 ay5 ay6 ax0 ax1 ax2 ax3 ax4 ax5 ac0 ac1 ac2 ac3 hw2
    have HF3 : Hid (FvS w1 w3 ⟨tp, ts⟩ ⟨yh, yt, ya, yv, yn, yd⟩ l u cu ⟨xh, xt, xa, xv, xn, xd⟩ nx un ⟨ch, cr, ci, cl⟩ uc cc) := HF2.out.step bb
    have hV1 : Hid (VO w3 u1 nx) := HO.out.slc.1
    have hu1 : Hid (u1 = none → c1 = 0) := HO.out.slc.2
    clear HF2 HO bb kV4
    obtain ⟨b9, hb9⟩ : ∃ b, w3.heap.size = b := ⟨_, rfl⟩
    obtain ⟨w4, hw4⟩ : ∃ W, w3.alloc (Obj.cells #[.int .i64 xh, .int .i64 xt, .string xa, .string xv, .string xn, .string xd, .slice u1 nx.length c1] 30) = W := ⟨_, rfl⟩
    have bb : Below w3.heap.size w3 w4 := by rw [← hw4]; exact below_one _ _
    have K9 : Hid (Blk w4 b9 [.int .i64 xh, .int .i64 xt, .string xa, .string xv, .string xn, .string xd, .slice u1 nx.length c1] 30) := by rw [← hw4, ← hb9]; exact blk_new w3 [.int .i64 xh, .int .i64 xt, .string xa, .string xv, .string xn, .string xd, .slice u1 nx.length c1] _
    have HF4 : Hid (FvS w1 w4 ⟨tp, ts⟩ ⟨yh, yt, ya, yv, yn, yd⟩ l u cu ⟨xh, xt, xa, xv, xn, xd⟩ nx un ⟨ch, cr, ci, cl⟩ uc cc) := HF3.out.step bb
    have hV4 : Hid (VO w4 u1 nx) := hV1.out.below bb
    clear bb
    obtain ⟨⟨at0, at1⟩, ⟨ay0, ay1, ay2, ay3, ay4, ay5, ay6⟩, ⟨ax0, ax1, ax2, ax3, ax4, ax5⟩, ⟨ac0, ac1, ac2, ac3⟩⟩ := hflat _ HF4.out
    go_wp2_with fail
    try rw [hw4]
    try rw [hb9]
    refine (kV5 _ HF4.out).mono ?_
    rintro e w5 ⟨u2, c2, rfl, HO, bb⟩
    clear at0 at1 ay0 ay1 ay2 ay3 ay4 ay5 ay6 ax0 ax1 ax2 ax3 ax4 ax5 ac0 ac1 ac2 ac3 hw4 hb9 HF3 hV1 HO kV5
    have HF5 : Hid (FvS w1 w5 ⟨tp, ts⟩ ⟨yh, yt, ya, yv, yn, yd⟩ l u cu ⟨xh, xt, xa, xv, xn, xd⟩ nx un ⟨ch, cr, ci, cl⟩ uc cc) := HF4.out.step bb
    have K9_5 : Hid (Blk w5 b9 [.int .i64 xh, .int .i64 xt, .string xa, .string xv, .string xn, .string xd, .slice u1 nx.length c1] 30) := K9.out.below bb K9.out.lt
    have hV5 : Hid (VO w5 u1 nx) := hV4.out.below bb
    clear HF4 K9 hV4 bb
    obtain ⟨w6, hw6⟩ : ∃ W, w5.alloc (Obj.cells #[.int .i64 xh, .int .i64 xt, .string xa, .string xv, .string xn, .string xd, .slice u2 nx.length c2] 30) = W := ⟨_, rfl⟩
    have bb : Below w5.heap.size w5 w6 := by rw [← hw6]; exact below_one _ _
    have HF6 : Hid (FvS w1 w6 ⟨tp, ts⟩ ⟨yh, yt, ya, yv, yn, yd⟩ l u cu ⟨xh, xt, xa, xv, xn, xd⟩ nx un ⟨ch, cr, ci, cl⟩ uc cc) := HF5.out.step bb
    have K9_6 : Hid (Blk w6 b9 [.int .i64 xh, .int .i64 xt, .string xa, .string xv, .string xn, .string xd, .slice u1 nx.length c1] 30) := K9_5.out.below bb K9_5.out.lt
    have hV6 : Hid (VO w6 u1 nx) := hV5.out.below bb
    clear HF5 K9_5 hV5 bb
    obtain ⟨⟨at0, at1⟩, ⟨ay0, ay1, ay2, ay3, ay4, ay5, ay6⟩, ⟨ax0, ax1, ax2, ax3, ax4, ax5⟩, ⟨ac0, ac1, ac2, ac3⟩⟩ := hflat _ HF6.out
    have ak0 := K9_6.out.cell 0 rfl
    have ak1 := K9_6.out.cell 1 rfl
    have ak2 := K9_6.out.cell 2 rfl
    have ak3 := K9_6.out.cell 3 rfl
    have ak4 := K9_6.out.cell 4 rfl
    have ak5 := K9_6.out.cell 5 rfl
    have ak6 := K9_6.out.cell 6 rfl
    go_wp2_with fail
    try rw [hw6]
    refine (kV10 u1 c1 _ hV6.out hu1.out HF6.out).mono ?_
    rintro e w7 ⟨u3, c3, rfl, HO, bb⟩
    clear at0 at1 ay0 ay1 ay2 ay3 ay4 ay5 ay6 ax0 ax1 ax2 ax3 ax4 ax5 ac0 ac1 ac2 ac3 ak0 ak1 ak2 ak3 ak4 ak5 ak6 hw6 HO kV10
    have HF7 : Hid (FvS w1 w7 ⟨tp, ts⟩ ⟨yh, yt, ya, yv, yn, yd⟩ l u cu ⟨xh, xt, xa, xv, xn, xd⟩ nx un ⟨ch, cr, ci, cl⟩ uc cc) := HF6.out.step bb
    have K9_7 : Hid (Blk w7 b9 [.int .i64 xh, .int .i64 xt, .string xa, .string xv, .string xn, .string xd, .slice u1 nx.length c1] 30) := K9_6.out.below bb K9_6.out.lt
    have hV7 : Hid (VO w7 u1 nx) := hV6.out.below bb
    clear HF6 K9_6 hV6 bb
    obtain ⟨b13, hb13⟩ : ∃ b, w7.heap.size = b := ⟨_, rfl⟩
    obtain ⟨w8, hw8⟩ : ∃ W, w7.alloc (Obj.cells #[.int .i64 xh, .int .i64 xt, .string xa, .string xv, .string xn, .string xd, .slice u3 nx.length c3] 30) = W := ⟨_, rfl⟩
    have hs8 : w8.heap.size = b13 + 1 := by rw [← hw8, ← hb13]; simp
    obtain ⟨w9, hw9⟩ : ∃ W, w8.alloc (Obj.cells #[.int .i64 xh, .int .i64 xt, .string xa, .string xv, .string xn, .string xd] 27) = W := ⟨_, rfl⟩
    have K15a : Hid (Blk w9 (b13 + 1) [.int .i64 xh, .int .i64 xt, .string xa, .string xv, .string xn, .string xd] 27) := by rw [← hw9, ← hs8]; exact blk_new w8 [.int .i64 xh, .int .i64 xt, .string xa, .string xv, .string xn, .string xd] _
    have b79 : Below b13 w7 w9 := by rw [← hw9, ← hw8]; exact ((Below.refl _ _).alloc (by omega) _).alloc (by simp; omega) _
    obtain ⟨ws, hws⟩ : ∃ W, w9.setCell ⟨b13 + 1, 5, none⟩ (.string ⟨#[122, 122]⟩) = W := ⟨_, rfl⟩
    have b7s : Below w7.heap.size w7 ws := by rw [hb13, ← hws]; exact b79.setCell (p := ⟨b13 + 1, 5, none⟩) (Nat.le_succ _) _
    have HFs : Hid (FvS w1 ws ⟨tp, ts⟩ ⟨yh, yt, ya, yv, yn, yd⟩ l u cu ⟨xh, xt, xa, xv, xn, xd⟩ nx un ⟨ch, cr, ci, cl⟩ uc cc) := HF7.out.step b7s
    have K9_s : Hid (Blk ws b9 [.int .i64 xh, .int .i64 xt, .string xa, .string xv, .string xn, .string xd, .slice u1 nx.length c1] 30) := K9_7.out.below b7s K9_7.out.lt
    have hVs : Hid (VO ws u1 nx) := hV7.out.below b7s
    have K15 : Hid (Blk ws (b13 + 1) [.int .i64 xh, .int .i64 xt, .string xa, .string xv, .string xn, .string ⟨#[122, 122]⟩] 27) := by rw [← hws]; exact K15a.out.set 5 _
    have HF8 : Hid (FvS w1 w8 ⟨tp, ts⟩ ⟨yh, yt, ya, yv, yn, yd⟩ l u cu ⟨xh, xt, xa, xv, xn, xd⟩ nx un ⟨ch, cr, ci, cl⟩ uc cc) := HF7.out.step (by rw [← hw8]; exact below_one _ _)
    have HF9 : Hid (FvS w1 w9 ⟨tp, ts⟩ ⟨yh, yt, ya, yv, yn, yd⟩ l u cu ⟨xh, xt, xa, xv, xn, xd⟩ nx un ⟨ch, cr, ci, cl⟩ uc cc) := HF7.out.step (by rw [hb13]; exact b79)
    obtain ⟨_, _, ⟨bx0, bx1, bx2, bx3, bx4, bx5⟩, _⟩ := hflat _ HF8.out
    have r0 := K15a.out.cell 5 rfl
    have r1 := K15a.out.frozen 5
    have ag0 := K15.out.cell 0 rfl
    have ag1 := K15.out.cell 1 rfl
    have ag2 := K15.out.cell 2 rfl
    have ag3 := K15.out.cell 3 rfl
    have ag4 := K15.out.cell 4 rfl
    have ag5 := K15.out.cell 5 rfl
    obtain ⟨⟨at0, at1⟩, ⟨ay0, ay1, ay2, ay3, ay4, ay5, ay6⟩, ⟨ax0, ax1, ax2, ax3, ax4, ax5⟩, ⟨ac0, ac1, ac2, ac3⟩⟩ := hflat _ HFs.out
    clear HF8 HF9 HF7 K9_7 hV7 b79 b7s K15a
    go_wp2_with fail
    try rw [hws]
    refine (kV13 _ HFs.out).mono ?_
    rintro e w10 ⟨u4, c4, rfl, HO, bb⟩
    clear at0 at1 ay0 ay1 ay2 ay3 ay4 ay5 ay6 ax0 ax1 ax2 ax3 ax4 ax5 ac0 ac1 ac2 ac3 ag0 ag1 ag2 ag3 ag4 ag5 bx0 bx1 bx2 bx3 bx4 bx5 r0 r1 hws hw9 hw8 hs8 hb13 HO kV13
    have HFa : Hid (FvS w1 w10 ⟨tp, ts⟩ ⟨yh, yt, ya, yv, yn, yd⟩ l u cu ⟨xh, xt, xa, xv, xn, xd⟩ nx un ⟨ch, cr, ci, cl⟩ uc cc) := HFs.out.step bb
    have K9_a : Hid (Blk w10 b9 [.int .i64 xh, .int .i64 xt, .string xa, .string xv, .string xn, .string xd, .slice u1 nx.length c1] 30) := K9_s.out.below bb K9_s.out.lt
    have hVa : Hid (VO w10 u1 nx) := hVs.out.below bb
    have K15_a : Hid (Blk w10 (b13 + 1) [.int .i64 xh, .int .i64 xt, .string xa, .string xv, .string xn, .string ⟨#[122, 122]⟩] 27) := K15.out.below bb K15.out.lt
    clear HFs K9_s hVs K15 bb
    obtain ⟨w11, hw11⟩ : ∃ W, w10.alloc (Obj.cells #[.int .i64 gh, .int .i64 gt, .string ga, .string gv, .string gn, .string gd, .slice u4 gl.length c4] 30) = W := ⟨_, rfl⟩
    have bb : Below w10.heap.size w10 w11.drew := by rw [← hw11]; exact (below_one _ _).drew
    have HFd : Hid (FvS w1 w11.drew ⟨tp, ts⟩ ⟨yh, yt, ya, yv, yn, yd⟩ l u cu ⟨xh, xt, xa, xv, xn, xd⟩ nx un ⟨ch, cr, ci, cl⟩ uc cc) := HFa.out.step bb
    have K9d : Hid (Blk w11.drew b9 [.int .i64 xh, .int .i64 xt, .string xa, .string xv, .string xn, .string xd, .slice u1 nx.length c1] 30) := K9_a.out.below bb K9_a.out.lt
    have hVd : Hid (VO w11.drew u1 nx) := hVa.out.below bb
    have Kgd : Hid (Blk w11.drew (b13 + 1) [.int .i64 xh, .int .i64 xt, .string xa, .string xv, .string xn, .string ⟨#[122, 122]⟩] 27) := K15_a.out.below bb K15_a.out.lt
    clear HFa K9_a hVa K15_a bb
    have hneg := guardH
    have hrun := fun W => run_eqH xh xt xa xv xn xd W
    by_cases hM : M = 9
    · subst hM
      go_wp2_with fail
      try rw [hw11]
      clear hw11
      refine wp_region_held_drew (S := (fun W : World => (W.cell? ⟨b9, 0, none⟩ = some (.int .i64 xh) ∧ W.cell? ⟨b9, 1, none⟩ = some (.int .i64 xt) ∧ W.cell? ⟨b9, 2, none⟩ = some (.string xa) ∧ W.cell? ⟨b9, 3, none⟩ = some (.string xv) ∧ W.cell? ⟨b9, 4, none⟩ = some (.string xn) ∧ W.cell? ⟨b9, 5, none⟩ = some (.string xd) ∧ W.cell? ⟨b9, 6, none⟩ = some (.slice u1 nx.length c1)) ∧ (W.cell? ⟨w1.heap.size + 1, 0, none⟩ = some (.int .i64 yh) ∧ W.cell? ⟨w1.heap.size + 1, 1, none⟩ = some (.int .i64 yt) ∧ W.cell? ⟨w1.heap.size + 1, 2, none⟩ = some (.string ya) ∧ W.cell? ⟨w1.heap.size + 1, 3, none⟩ = some (.string yv) ∧ W.cell? ⟨w1.heap.size + 1, 4, none⟩ = some (.string yn) ∧ W.cell? ⟨w1.heap.size + 1, 5, none⟩ = some (.string yd) ∧ W.cell? ⟨w1.heap.size + 1, 6, none⟩ = some (.slice u l.length cu)) ∧ (W.cell? ⟨w1.heap.size + 2, 0, none⟩ = some (.int .i64 xh) ∧ W.cell? ⟨w1.heap.size + 2, 1, none⟩ = some (.int .i64 xt) ∧ W.cell? ⟨w1.heap.size + 2, 2, none⟩ = some (.string xa) ∧ W.cell? ⟨w1.heap.size + 2, 3, none⟩ = some (.string xv) ∧ W.cell? ⟨w1.heap.size + 2, 4, none⟩ = some (.string xn) ∧ W.cell? ⟨w1.heap.size + 2, 5, none⟩ = some (.string xd)) ∧ (W.cell? ⟨w1.heap.size + 3, 0, none⟩ = some (.int .i64 ch) ∧ W.cell? ⟨w1.heap.size + 3, 1, none⟩ = some (.int .i64 cr) ∧ W.cell? ⟨w1.heap.size + 3, 2, none⟩ = some (.string ci) ∧ W.cell? ⟨w1.heap.size + 3, 3, none⟩ = some (.slice uc cl.length cc)) ∧ (W.cell? ⟨b13 + 1, 0, none⟩ = some (.int .i64 xh) ∧ W.cell? ⟨b13 + 1, 1, none⟩ = some (.int .i64 xt) ∧ W.cell? ⟨b13 + 1, 2, none⟩ = some (.string xa) ∧ W.cell? ⟨b13 + 1, 3, none⟩ = some (.string xv) ∧ W.cell? ⟨b13 + 1, 4, none⟩ = some (.string xn) ∧ W.cell? ⟨b13 + 1, 5, none⟩ = some (.string ⟨#[122, 122]⟩)))) (by kernel_rfl) ?_ (fun hHeld => ?_)
      · exact ⟨⟨(K9d.out).cell 0 rfl, (K9d.out).cell 1 rfl, (K9d.out).cell 2 rfl, (K9d.out).cell 3 rfl, (K9d.out).cell 4 rfl, (K9d.out).cell 5 rfl, (K9d.out).cell 6 rfl⟩, ⟨(HFd.out.1.2.1).cell 0 rfl, (HFd.out.1.2.1).cell 1 rfl, (HFd.out.1.2.1).cell 2 rfl, (HFd.out.1.2.1).cell 3 rfl, (HFd.out.1.2.1).cell 4 rfl, (HFd.out.1.2.1).cell 5 rfl, (HFd.out.1.2.1).cell 6 rfl⟩, ⟨(HFd.out.1.2.2.1).cell 0 rfl, (HFd.out.1.2.2.1).cell 1 rfl, (HFd.out.1.2.2.1).cell 2 rfl, (HFd.out.1.2.2.1).cell 3 rfl, (HFd.out.1.2.2.1).cell 4 rfl, (HFd.out.1.2.2.1).cell 5 rfl⟩, ⟨(HFd.out.1.2.2.2.1).cell 0 rfl, (HFd.out.1.2.2.2.1).cell 1 rfl, (HFd.out.1.2.2.2.1).cell 2 rfl, (HFd.out.1.2.2.2.1).cell 3 rfl⟩, ⟨(Kgd.out).cell 0 rfl, (Kgd.out).cell 1 rfl, (Kgd.out).cell 2 rfl, (Kgd.out).cell 3 rfl, (Kgd.out).cell 4 rfl, (Kgd.out).cell 5 rfl⟩⟩
      generalize w11.drew = wd at *
      refine wpAnyH_take (i := 0) (oi := { dst := Option.some 88, op := Go.Op.load 30 (Go.Operand.tmp 9), type := 30, pos := "laws.go:513", after := #[], guard := Option.none }) (v := ?_) rfl (by kernel_rfl) (by kernel_rfl) (by kernel_rfl) (fun _ _ _ h => h) (Or.inl ⟨by rfl, ?_⟩) hHeld ?_
      rotate_left
      · intro w hSw
        try dsimp only at hSw
        go_simp
        try (with_reducible rfl)
      simp only [Act.put, List.setIfInBounds_toArray, List.set_cons_zero, List.set_cons_succ]
      refine wpAnyH_ready (rs := [1]) (by kernel_rfl) (by decide) ?_
      refine AllReadyH.cons (o := { dst := Option.some 89, op := Go.Op.call { callee := Go.Callee.value (Go.Operand.func 10), args := #[Go.Operand.tmp 88], argTypes := #[30] }, type := 4, pos := "laws.go:513", after := #[{ on := 0, ground := Go.Ground.data }], guard := Option.none }) rfl (fun K hK => ?_) AllReadyH.nil
      go_simp
      go_at_call 10
      refine (kO u1 c1 _ hVd.out).mono ?_
      rintro e v1 ⟨rfl, bw1⟩
      have F1 : Hid (FvS w1 v1 ⟨tp, ts⟩ ⟨yh, yt, ya, yv, yn, yd⟩ l u cu ⟨xh, xt, xa, xv, xn, xd⟩ nx un ⟨ch, cr, ci, cl⟩ uc cc) := HFd.out.step bw1
      have K1 : Hid (Blk v1 b9 [.int .i64 xh, .int .i64 xt, .string xa, .string xv, .string xn, .string xd, .slice u1 nx.length c1] 30) := K9d.out.below bw1 K9d.out.lt
      have G1 : Hid (Blk v1 (b13 + 1) [.int .i64 xh, .int .i64 xt, .string xa, .string xv, .string xn, .string ⟨#[122, 122]⟩] 27) := Kgd.out.below bw1 Kgd.out.lt
      clear bw1
      refine hK.out _ _ (⟨⟨(K1.out).cell 0 rfl, (K1.out).cell 1 rfl, (K1.out).cell 2 rfl, (K1.out).cell 3 rfl, (K1.out).cell 4 rfl, (K1.out).cell 5 rfl, (K1.out).cell 6 rfl⟩, ⟨(F1.out.1.2.1).cell 0 rfl, (F1.out.1.2.1).cell 1 rfl, (F1.out.1.2.1).cell 2 rfl, (F1.out.1.2.1).cell 3 rfl, (F1.out.1.2.1).cell 4 rfl, (F1.out.1.2.1).cell 5 rfl, (F1.out.1.2.1).cell 6 rfl⟩, ⟨(F1.out.1.2.2.1).cell 0 rfl, (F1.out.1.2.2.1).cell 1 rfl, (F1.out.1.2.2.1).cell 2 rfl, (F1.out.1.2.2.1).cell 3 rfl, (F1.out.1.2.2.1).cell 4 rfl, (F1.out.1.2.2.1).cell 5 rfl⟩, ⟨(F1.out.1.2.2.2.1).cell 0 rfl, (F1.out.1.2.2.2.1).cell 1 rfl, (F1.out.1.2.2.2.1).cell 2 rfl, (F1.out.1.2.2.2.1).cell 3 rfl⟩, ⟨(G1.out).cell 0 rfl, (G1.out).cell 1 rfl, (G1.out).cell 2 rfl, (G1.out).cell 3 rfl, (G1.out).cell 4 rfl, (G1.out).cell 5 rfl⟩⟩) (fun hHeld => ?_)
      clear hK K
      try simp only [Act.put, List.setIfInBounds_toArray, List.set_cons_zero, List.set_cons_succ]
      refine wpAnyH_take (i := 2) (oi := { dst := Option.some 90, op := Go.Op.move (Go.Operand.tmp 89), type := 4, pos := "laws.go:513", after := #[{ on := 1, ground := Go.Ground.data }, { on := 1, ground := Go.Ground.chain }], guard := Option.none }) (v := ?_) rfl (by kernel_rfl) (by kernel_rfl) (by kernel_rfl) (fun _ _ _ h => h) (Or.inl ⟨by rfl, ?_⟩) hHeld ?_
      rotate_left
      · intro w hSw
        try dsimp only at hSw
        go_simp
        try (with_reducible rfl)
      simp only [Act.put, List.setIfInBounds_toArray, List.set_cons_zero, List.set_cons_succ]
      refine wpAnyH_take (i := 3) (oi := { dst := Option.some 91, op := Go.Op.fieldAddr 30 (Go.Operand.tmp 9) 0, type := 0, pos := "laws.go:513", after := #[{ on := 2, ground := Go.Ground.guard }], guard := Option.some (2, Bool.true) }) (v := ?_) rfl (by kernel_rfl) (by kernel_rfl) (by kernel_rfl) (fun _ _ _ h => h) (Or.inl ⟨by rfl, ?_⟩) hHeld ?_
      rotate_left
      · intro w hSw
        try dsimp only at hSw
        go_simp
        try (with_reducible rfl)
      simp only [Act.put, List.setIfInBounds_toArray, List.set_cons_zero, List.set_cons_succ]
      refine wpAnyH_take (i := 4) (oi := { dst := Option.some 92, op := Go.Op.load 27 (Go.Operand.tmp 91), type := 27, pos := "laws.go:513", after := #[{ on := 3, ground := Go.Ground.data }, { on := 2, ground := Go.Ground.guard }], guard := Option.some (2, Bool.true) }) (v := ?_) rfl (by kernel_rfl) (by kernel_rfl) (by kernel_rfl) (fun _ _ _ h => h) (Or.inl ⟨by rfl, ?_⟩) hHeld ?_
      rotate_left
      · intro w hSw
        try dsimp only at hSw
        go_simp
        try (with_reducible rfl)
      simp only [Act.put, List.setIfInBounds_toArray, List.set_cons_zero, List.set_cons_succ]
      refine wpAnyH_take (i := 5) (oi := { dst := Option.some 93, op := Go.Op.load 27 (Go.Operand.tmp 5), type := 27, pos := "laws.go:513", after := #[{ on := 2, ground := Go.Ground.guard }], guard := Option.some (2, Bool.true) }) (v := ?_) rfl (by kernel_rfl) (by kernel_rfl) (by kernel_rfl) (fun _ _ _ h => h) (Or.inl ⟨by rfl, ?_⟩) hHeld ?_
      rotate_left
      · intro w hSw
        try dsimp only at hSw
        go_simp
        try (with_reducible rfl)
      simp only [Act.put, List.setIfInBounds_toArray, List.set_cons_zero, List.set_cons_succ]
      refine wpAnyH_take (i := 6) (oi := { dst := Option.some 94, op := Go.Op.binOp Go.BinOp.eql 27 (Go.Operand.tmp 92) (Go.Operand.tmp 93) 27, type := 4, pos := "laws.go:513", after := #[{ on := 4, ground := Go.Ground.data }, { on := 5, ground := Go.Ground.data }, { on := 2, ground := Go.Ground.guard }], guard := Option.some (2, Bool.true) }) (v := ?_) rfl (by kernel_rfl) (by kernel_rfl) (by kernel_rfl) (fun _ _ _ h => h) (Or.inl ⟨by rfl, ?_⟩) hHeld ?_
      rotate_left
      · intro w hSw
        try dsimp only at hSw
        go_simp
        try (with_reducible rfl)
      simp only [Act.put, List.setIfInBounds_toArray, List.set_cons_zero, List.set_cons_succ]
      refine wpAnyH_take (i := 7) (oi := { dst := Option.some 95, op := Go.Op.pick (Go.Operand.tmp 90) (Go.Operand.tmp 94) (Go.Operand.const (Go.Value.bool Bool.false)), type := 4, pos := "laws.go:513", after := #[{ on := 2, ground := Go.Ground.data }, { on := 6, ground := Go.Ground.data }], guard := Option.none }) (v := ?_) rfl (by kernel_rfl) (by kernel_rfl) (by kernel_rfl) (fun _ _ _ h => h) (Or.inl ⟨by rfl, ?_⟩) hHeld ?_
      rotate_left
      · intro w hSw
        try dsimp only at hSw
        go_simp
        try (with_reducible rfl)
      simp only [Act.put, List.setIfInBounds_toArray, List.set_cons_zero, List.set_cons_succ]
      refine wpAnyH_take (i := 8) (oi := { dst := Option.some 96, op := Go.Op.move (Go.Operand.tmp 95), type := 4, pos := "laws.go:513", after := #[{ on := 7, ground := Go.Ground.data }, { on := 2, ground := Go.Ground.chain }], guard := Option.none }) (v := ?_) rfl (by kernel_rfl) (by kernel_rfl) (by kernel_rfl) (fun _ _ _ h => h) (Or.inl ⟨by rfl, ?_⟩) hHeld ?_
      rotate_left
      · intro w hSw
        try dsimp only at hSw
        go_simp
        try (with_reducible rfl)
      simp only [Act.put, List.setIfInBounds_toArray, List.set_cons_zero, List.set_cons_succ]
      refine wpAnyH_take (i := 9) (oi := { dst := Option.some 97, op := Go.Op.fieldAddr 27 (Go.Operand.tmp 5) 2, type := 0, pos := "laws.go:513", after := #[{ on := 8, ground := Go.Ground.guard }], guard := Option.some (8, Bool.true) }) (v := ?_) rfl (by kernel_rfl) (by kernel_rfl) (by kernel_rfl) (fun _ _ _ h => h) (Or.inl ⟨by rfl, ?_⟩) hHeld ?_
      rotate_left
      · intro w hSw
        try dsimp only at hSw
        go_simp
        try (with_reducible rfl)
      simp only [Act.put, List.setIfInBounds_toArray, List.set_cons_zero, List.set_cons_succ]
      refine wpAnyH_take (i := 10) (oi := { dst := Option.some 98, op := Go.Op.load 9 (Go.Operand.tmp 97), type := 9, pos := "laws.go:513", after := #[{ on := 9, ground := Go.Ground.data }, { on := 8, ground := Go.Ground.guard }], guard := Option.some (8, Bool.true) }) (v := ?_) rfl (by kernel_rfl) (by kernel_rfl) (by kernel_rfl) (fun _ _ _ h => h) (Or.inl ⟨by rfl, ?_⟩) hHeld ?_
      rotate_left
      · intro w hSw
        try dsimp only at hSw
        go_simp
        try (with_reducible rfl)
      simp only [Act.put, List.setIfInBounds_toArray, List.set_cons_zero, List.set_cons_succ]
      refine wpAnyH_take (i := 11) (oi := { dst := Option.some 99, op := Go.Op.fieldAddr 30 (Go.Operand.tmp 4) 0, type := 0, pos := "laws.go:513", after := #[{ on := 8, ground := Go.Ground.guard }], guard := Option.some (8, Bool.true) }) (v := ?_) rfl (by kernel_rfl) (by kernel_rfl) (by kernel_rfl) (fun _ _ _ h => h) (Or.inl ⟨by rfl, ?_⟩) hHeld ?_
      rotate_left
      · intro w hSw
        try dsimp only at hSw
        go_simp
        try (with_reducible rfl)
      simp only [Act.put, List.setIfInBounds_toArray, List.set_cons_zero, List.set_cons_succ]
      refine wpAnyH_take (i := 12) (oi := { dst := Option.some 100, op := Go.Op.load 27 (Go.Operand.tmp 99), type := 27, pos := "laws.go:513", after := #[{ on := 11, ground := Go.Ground.data }, { on := 8, ground := Go.Ground.guard }], guard := Option.some (8, Bool.true) }) (v := ?_) rfl (by kernel_rfl) (by kernel_rfl) (by kernel_rfl) (fun _ _ _ h => h) (Or.inl ⟨by rfl, ?_⟩) hHeld ?_
      rotate_left
      · intro w hSw
        try dsimp only at hSw
        go_simp
        try (with_reducible rfl)
      simp only [Act.put, List.setIfInBounds_toArray, List.set_cons_zero, List.set_cons_succ]
      refine wpAnyH_ready (rs := [13]) (by kernel_rfl) (by decide) ?_
      refine AllReadyH.cons (o := { dst := Option.some 101, op := Go.Op.call { callee := Go.Callee.value (Go.Operand.func 11), args := #[Go.Operand.tmp 100], argTypes := #[27] }, type := 9, pos := "laws.go:513", after := #[{ on := 12, ground := Go.Ground.data }, { on := 8, ground := Go.Ground.chain }, { on := 8, ground := Go.Ground.guard }], guard := Option.some (8, Bool.true) }) rfl (fun K hK => ?_) AllReadyH.nil
      go_simp
      go_at_call 11
      refine (kHy _).mono ?_
      rintro e v2 ⟨rfl, bw2⟩
      have F2 : Hid (FvS w1 v2 ⟨tp, ts⟩ ⟨yh, yt, ya, yv, yn, yd⟩ l u cu ⟨xh, xt, xa, xv, xn, xd⟩ nx un ⟨ch, cr, ci, cl⟩ uc cc) := F1.out.step bw2
      have K2 : Hid (Blk v2 b9 [.int .i64 xh, .int .i64 xt, .string xa, .string xv, .string xn, .string xd, .slice u1 nx.length c1] 30) := K1.out.below bw2 K1.out.lt
      have G2 : Hid (Blk v2 (b13 + 1) [.int .i64 xh, .int .i64 xt, .string xa, .string xv, .string xn, .string ⟨#[122, 122]⟩] 27) := G1.out.below bw2 G1.out.lt
      clear bw2
      refine hK.out _ _ (⟨⟨(K2.out).cell 0 rfl, (K2.out).cell 1 rfl, (K2.out).cell 2 rfl, (K2.out).cell 3 rfl, (K2.out).cell 4 rfl, (K2.out).cell 5 rfl, (K2.out).cell 6 rfl⟩, ⟨(F2.out.1.2.1).cell 0 rfl, (F2.out.1.2.1).cell 1 rfl, (F2.out.1.2.1).cell 2 rfl, (F2.out.1.2.1).cell 3 rfl, (F2.out.1.2.1).cell 4 rfl, (F2.out.1.2.1).cell 5 rfl, (F2.out.1.2.1).cell 6 rfl⟩, ⟨(F2.out.1.2.2.1).cell 0 rfl, (F2.out.1.2.2.1).cell 1 rfl, (F2.out.1.2.2.1).cell 2 rfl, (F2.out.1.2.2.1).cell 3 rfl, (F2.out.1.2.2.1).cell 4 rfl, (F2.out.1.2.2.1).cell 5 rfl⟩, ⟨(F2.out.1.2.2.2.1).cell 0 rfl, (F2.out.1.2.2.2.1).cell 1 rfl, (F2.out.1.2.2.2.1).cell 2 rfl, (F2.out.1.2.2.2.1).cell 3 rfl⟩, ⟨(G2.out).cell 0 rfl, (G2.out).cell 1 rfl, (G2.out).cell 2 rfl, (G2.out).cell 3 rfl, (G2.out).cell 4 rfl, (G2.out).cell 5 rfl⟩⟩) (fun hHeld => ?_)
      clear hK K
      try simp only [Act.put, List.setIfInBounds_toArray, List.set_cons_zero, List.set_cons_succ]
      refine wpAnyH_take (i := 14) (oi := { dst := Option.some 102, op := Go.Op.binOp Go.BinOp.eql 9 (Go.Operand.tmp 98) (Go.Operand.tmp 101) 9, type := 4, pos := "laws.go:513", after := #[{ on := 10, ground := Go.Ground.data }, { on := 13, ground := Go.Ground.data }, { on := 8, ground := Go.Ground.guard }], guard := Option.some (8, Bool.true) }) (v := ?_) rfl (by kernel_rfl) (by kernel_rfl) (by kernel_rfl) (fun _ _ _ h => h) (Or.inl ⟨by rfl, ?_⟩) hHeld ?_
      rotate_left
      · intro w hSw
        try dsimp only at hSw
        go_simp
        try (with_reducible rfl)
      simp only [Act.put, List.setIfInBounds_toArray, List.set_cons_zero, List.set_cons_succ]
      refine wpAnyH_take (i := 15) (oi := { dst := Option.some 103, op := Go.Op.pick (Go.Operand.tmp 96) (Go.Operand.tmp 102) (Go.Operand.const (Go.Value.bool Bool.false)), type := 4, pos := "laws.go:513", after := #[{ on := 8, ground := Go.Ground.data }, { on := 14, ground := Go.Ground.data }], guard := Option.none }) (v := ?_) rfl (by kernel_rfl) (by kernel_rfl) (by kernel_rfl) (fun _ _ _ h => h) (Or.inl ⟨by rfl, ?_⟩) hHeld ?_
      rotate_left
      · intro w hSw
        try dsimp only at hSw
        go_simp
        try (with_reducible rfl)
      simp only [Act.put, List.setIfInBounds_toArray, List.set_cons_zero, List.set_cons_succ]
      refine wpAnyH_take (i := 16) (oi := { dst := Option.some 104, op := Go.Op.move (Go.Operand.tmp 103), type := 4, pos := "laws.go:513", after := #[{ on := 15, ground := Go.Ground.data }, { on := 13, ground := Go.Ground.chain }], guard := Option.none }) (v := ?_) rfl (by kernel_rfl) (by kernel_rfl) (by kernel_rfl) (fun _ _ _ h => h) (Or.inl ⟨by rfl, ?_⟩) hHeld ?_
      rotate_left
      · intro w hSw
        try dsimp only at hSw
        go_simp
        try (with_reducible rfl)
      simp only [Act.put, List.setIfInBounds_toArray, List.set_cons_zero, List.set_cons_succ]
      refine wpAnyH_take (i := 17) (oi := { dst := Option.some 105, op := Go.Op.fieldAddr 27 (Go.Operand.tmp 5) 1, type := 0, pos := "laws.go:513", after := #[{ on := 16, ground := Go.Ground.guard }], guard := Option.some (16, Bool.true) }) (v := ?_) rfl (by kernel_rfl) (by kernel_rfl) (by kernel_rfl) (fun _ _ _ h => h) (Or.inl ⟨by rfl, ?_⟩) hHeld ?_
      rotate_left
      · intro w hSw
        try dsimp only at hSw
        go_simp
        try (with_reducible rfl)
      simp only [Act.put, List.setIfInBounds_toArray, List.set_cons_zero, List.set_cons_succ]
      refine wpAnyH_take (i := 18) (oi := { dst := Option.some 106, op := Go.Op.load 3 (Go.Operand.tmp 105), type := 3, pos := "laws.go:513", after := #[{ on := 17, ground := Go.Ground.data }, { on := 16, ground := Go.Ground.guard }], guard := Option.some (16, Bool.true) }) (v := ?_) rfl (by kernel_rfl) (by kernel_rfl) (by kernel_rfl) (fun _ _ _ h => h) (Or.inl ⟨by rfl, ?_⟩) hHeld ?_
      rotate_left
      · intro w hSw
        try dsimp only at hSw
        go_simp
        try (with_reducible rfl)
      simp only [Act.put, List.setIfInBounds_toArray, List.set_cons_zero, List.set_cons_succ]
      refine wpAnyH_take (i := 19) (oi := { dst := Option.some 107, op := Go.Op.fieldAddr 30 (Go.Operand.tmp 4) 0, type := 0, pos := "laws.go:513", after := #[{ on := 16, ground := Go.Ground.guard }], guard := Option.some (16, Bool.true) }) (v := ?_) rfl (by kernel_rfl) (by kernel_rfl) (by kernel_rfl) (fun _ _ _ h => h) (Or.inl ⟨by rfl, ?_⟩) hHeld ?_
      rotate_left
      · intro w hSw
        try dsimp only at hSw
        go_simp
        try (with_reducible rfl)
      simp only [Act.put, List.setIfInBounds_toArray, List.set_cons_zero, List.set_cons_succ]
      refine wpAnyH_take (i := 20) (oi := { dst := Option.some 108, op := Go.Op.fieldAddr 27 (Go.Operand.tmp 107) 1, type := 0, pos := "laws.go:513", after := #[{ on := 19, ground := Go.Ground.data }, { on := 16, ground := Go.Ground.guard }], guard := Option.some (16, Bool.true) }) (v := ?_) rfl (by kernel_rfl) (by kernel_rfl) (by kernel_rfl) (fun _ _ _ h => h) (Or.inl ⟨by rfl, ?_⟩) hHeld ?_
      rotate_left
      · intro w hSw
        try dsimp only at hSw
        go_simp
        try (with_reducible rfl)
      simp only [Act.put, List.setIfInBounds_toArray, List.set_cons_zero, List.set_cons_succ]
      refine wpAnyH_take (i := 21) (oi := { dst := Option.some 109, op := Go.Op.load 3 (Go.Operand.tmp 108), type := 3, pos := "laws.go:513", after := #[{ on := 20, ground := Go.Ground.data }, { on := 16, ground := Go.Ground.guard }], guard := Option.some (16, Bool.true) }) (v := ?_) rfl (by kernel_rfl) (by kernel_rfl) (by kernel_rfl) (fun _ _ _ h => h) (Or.inl ⟨by rfl, ?_⟩) hHeld ?_
      rotate_left
      · intro w hSw
        try dsimp only at hSw
        go_simp
        try (with_reducible rfl)
      simp only [Act.put, List.setIfInBounds_toArray, List.set_cons_zero, List.set_cons_succ]
      refine wpAnyH_take (i := 22) (oi := { dst := Option.some 110, op := Go.Op.binOp Go.BinOp.gtr 3 (Go.Operand.tmp 106) (Go.Operand.tmp 109) 3, type := 4, pos := "laws.go:513", after := #[{ on := 18, ground := Go.Ground.data }, { on := 21, ground := Go.Ground.data }, { on := 16, ground := Go.Ground.guard }], guard := Option.some (16, Bool.true) }) (v := ?_) rfl (by kernel_rfl) (by kernel_rfl) (by kernel_rfl) (fun _ _ _ h => h) (Or.inl ⟨by rfl, ?_⟩) hHeld ?_
      rotate_left
      · intro w hSw
        try dsimp only at hSw
        go_simp
        try (with_reducible rfl)
      simp only [Act.put, List.setIfInBounds_toArray, List.set_cons_zero, List.set_cons_succ]
      refine wpAnyH_take (i := 23) (oi := { dst := Option.some 111, op := Go.Op.pick (Go.Operand.tmp 104) (Go.Operand.tmp 110) (Go.Operand.const (Go.Value.bool Bool.false)), type := 4, pos := "laws.go:513", after := #[{ on := 16, ground := Go.Ground.data }, { on := 22, ground := Go.Ground.data }], guard := Option.none }) (v := ?_) rfl (by kernel_rfl) (by kernel_rfl) (by kernel_rfl) (fun _ _ _ h => h) (Or.inl ⟨by rfl, ?_⟩) hHeld ?_
      rotate_left
      · intro w hSw
        try dsimp only at hSw
        go_simp
        try (with_reducible rfl)
      simp only [Act.put, List.setIfInBounds_toArray, List.set_cons_zero, List.set_cons_succ]
      refine wpAnyH_take (i := 24) (oi := { dst := Option.some 112, op := Go.Op.move (Go.Operand.tmp 111), type := 4, pos := "laws.go:513", after := #[{ on := 23, ground := Go.Ground.data }, { on := 16, ground := Go.Ground.chain }], guard := Option.none }) (v := ?_) rfl (by kernel_rfl) (by kernel_rfl) (by kernel_rfl) (fun _ _ _ h => h) (Or.inl ⟨by rfl, ?_⟩) hHeld ?_
      rotate_left
      · intro w hSw
        try dsimp only at hSw
        go_simp
        try (with_reducible rfl)
      simp only [Act.put, List.setIfInBounds_toArray, List.set_cons_zero, List.set_cons_succ]
      refine wpAnyH_take (i := 25) (oi := { dst := Option.some 113, op := Go.Op.fieldAddr 30 (Go.Operand.tmp 4) 1, type := 0, pos := "laws.go:513", after := #[{ on := 24, ground := Go.Ground.guard }], guard := Option.some (24, Bool.true) }) (v := ?_) rfl (by kernel_rfl) (by kernel_rfl) (by kernel_rfl) (fun _ _ _ h => h) (Or.inl ⟨by rfl, ?_⟩) hHeld ?_
      rotate_left
      · intro w hSw
        try dsimp only at hSw
        go_simp
        try (with_reducible rfl)
      simp only [Act.put, List.setIfInBounds_toArray, List.set_cons_zero, List.set_cons_succ]
      refine wpAnyH_take (i := 26) (oi := { dst := Option.some 114, op := Go.Op.load 28 (Go.Operand.tmp 113), type := 28, pos := "laws.go:513", after := #[{ on := 25, ground := Go.Ground.data }, { on := 24, ground := Go.Ground.guard }], guard := Option.some (24, Bool.true) }) (v := ?_) rfl (by kernel_rfl) (by kernel_rfl) (by kernel_rfl) (fun _ _ _ h => h) (Or.inl ⟨by rfl, ?_⟩) hHeld ?_
      rotate_left
      · intro w hSw
        try dsimp only at hSw
        go_simp
        try (with_reducible rfl)
      simp only [Act.put, List.setIfInBounds_toArray, List.set_cons_zero, List.set_cons_succ]
      refine wpAnyH_take (i := 27) (oi := { dst := Option.some 115, op := Go.Op.load 33 (Go.Operand.tmp 7), type := 33, pos := "laws.go:513", after := #[{ on := 24, ground := Go.Ground.guard }], guard := Option.some (24, Bool.true) }) (v := ?_) rfl (by kernel_rfl) (by kernel_rfl) (by kernel_rfl) (fun _ _ _ h => h) (Or.inl ⟨by rfl, ?_⟩) hHeld ?_
      rotate_left
      · intro w hSw
        try dsimp only at hSw
        go_simp
        try (with_reducible rfl)
      simp only [Act.put, List.setIfInBounds_toArray, List.set_cons_zero, List.set_cons_succ]
      refine wpAnyH_ready (rs := [28]) (by kernel_rfl) (by decide) ?_
      refine AllReadyH.cons (o := { dst := Option.some 116, op := Go.Op.call { callee := Go.Callee.value (Go.Operand.func 13), args := #[Go.Operand.tmp 115], argTypes := #[33] }, type := 42, pos := "laws.go:513", after := #[{ on := 27, ground := Go.Ground.data }, { on := 24, ground := Go.Ground.chain }, { on := 24, ground := Go.Ground.guard }], guard := Option.some (24, Bool.true) }) rfl (fun K hK => ?_) AllReadyH.nil
      go_simp
      go_at_call 13
      refine (kC _ F2.out).mono ?_
      rintro e v3 ⟨q, rfl, HOq, bw3⟩
      have F3 : Hid (FvS w1 v3 ⟨tp, ts⟩ ⟨yh, yt, ya, yv, yn, yd⟩ l u cu ⟨xh, xt, xa, xv, xn, xd⟩ nx un ⟨ch, cr, ci, cl⟩ uc cc) := F2.out.step bw3
      have K3 : Hid (Blk v3 b9 [.int .i64 xh, .int .i64 xt, .string xa, .string xv, .string xn, .string xd, .slice u1 nx.length c1] 30) := K2.out.below bw3 K2.out.lt
      have G3 : Hid (Blk v3 (b13 + 1) [.int .i64 xh, .int .i64 xt, .string xa, .string xv, .string xn, .string ⟨#[122, 122]⟩] 27) := G2.out.below bw3 G2.out.lt
      obtain ⟨ia, ic, rfl, hNq⟩ := OwnI.sln HOq
      have N3 : Hid (Nums v3 ia ids) := hNq
      clear HOq hNq
      clear bw3
      refine hK.out _ _ (⟨⟨(K3.out).cell 0 rfl, (K3.out).cell 1 rfl, (K3.out).cell 2 rfl, (K3.out).cell 3 rfl, (K3.out).cell 4 rfl, (K3.out).cell 5 rfl, (K3.out).cell 6 rfl⟩, ⟨(F3.out.1.2.1).cell 0 rfl, (F3.out.1.2.1).cell 1 rfl, (F3.out.1.2.1).cell 2 rfl, (F3.out.1.2.1).cell 3 rfl, (F3.out.1.2.1).cell 4 rfl, (F3.out.1.2.1).cell 5 rfl, (F3.out.1.2.1).cell 6 rfl⟩, ⟨(F3.out.1.2.2.1).cell 0 rfl, (F3.out.1.2.2.1).cell 1 rfl, (F3.out.1.2.2.1).cell 2 rfl, (F3.out.1.2.2.1).cell 3 rfl, (F3.out.1.2.2.1).cell 4 rfl, (F3.out.1.2.2.1).cell 5 rfl⟩, ⟨(F3.out.1.2.2.2.1).cell 0 rfl, (F3.out.1.2.2.2.1).cell 1 rfl, (F3.out.1.2.2.2.1).cell 2 rfl, (F3.out.1.2.2.2.1).cell 3 rfl⟩, ⟨(G3.out).cell 0 rfl, (G3.out).cell 1 rfl, (G3.out).cell 2 rfl, (G3.out).cell 3 rfl, (G3.out).cell 4 rfl, (G3.out).cell 5 rfl⟩⟩) (fun hHeld => ?_)
      clear hK K
      try simp only [Act.put, List.setIfInBounds_toArray, List.set_cons_zero, List.set_cons_succ]
      refine wpAnyH_ready (rs := [29]) (by kernel_rfl) (by decide) ?_
      refine AllReadyH.cons (o := { dst := Option.some 117, op := Go.Op.call { callee := Go.Callee.value (Go.Operand.func 12), args := #[Go.Operand.tmp 114, Go.Operand.tmp 116], argTypes := #[28, 42] }, type := 4, pos := "laws.go:513", after := #[{ on := 26, ground := Go.Ground.data }, { on := 28, ground := Go.Ground.data }, { on := 28, ground := Go.Ground.chain }, { on := 24, ground := Go.Ground.guard }], guard := Option.some (24, Bool.true) }) rfl (fun K hK => ?_) AllReadyH.nil
      go_simp
      go_at_call 12
      refine (kE ia ic _ F3.out N3.out).mono ?_
      rintro e v4 ⟨rfl, bw4⟩
      have F4 : Hid (FvS w1 v4 ⟨tp, ts⟩ ⟨yh, yt, ya, yv, yn, yd⟩ l u cu ⟨xh, xt, xa, xv, xn, xd⟩ nx un ⟨ch, cr, ci, cl⟩ uc cc) := F3.out.step bw4
      have K4 : Hid (Blk v4 b9 [.int .i64 xh, .int .i64 xt, .string xa, .string xv, .string xn, .string xd, .slice u1 nx.length c1] 30) := K3.out.below bw4 K3.out.lt
      have G4 : Hid (Blk v4 (b13 + 1) [.int .i64 xh, .int .i64 xt, .string xa, .string xv, .string xn, .string ⟨#[122, 122]⟩] 27) := G3.out.below bw4 G3.out.lt
      clear bw4
      refine hK.out _ _ (⟨⟨(K4.out).cell 0 rfl, (K4.out).cell 1 rfl, (K4.out).cell 2 rfl, (K4.out).cell 3 rfl, (K4.out).cell 4 rfl, (K4.out).cell 5 rfl, (K4.out).cell 6 rfl⟩, ⟨(F4.out.1.2.1).cell 0 rfl, (F4.out.1.2.1).cell 1 rfl, (F4.out.1.2.1).cell 2 rfl, (F4.out.1.2.1).cell 3 rfl, (F4.out.1.2.1).cell 4 rfl, (F4.out.1.2.1).cell 5 rfl, (F4.out.1.2.1).cell 6 rfl⟩, ⟨(F4.out.1.2.2.1).cell 0 rfl, (F4.out.1.2.2.1).cell 1 rfl, (F4.out.1.2.2.1).cell 2 rfl, (F4.out.1.2.2.1).cell 3 rfl, (F4.out.1.2.2.1).cell 4 rfl, (F4.out.1.2.2.1).cell 5 rfl⟩, ⟨(F4.out.1.2.2.2.1).cell 0 rfl, (F4.out.1.2.2.2.1).cell 1 rfl, (F4.out.1.2.2.2.1).cell 2 rfl, (F4.out.1.2.2.2.1).cell 3 rfl⟩, ⟨(G4.out).cell 0 rfl, (G4.out).cell 1 rfl, (G4.out).cell 2 rfl, (G4.out).cell 3 rfl, (G4.out).cell 4 rfl, (G4.out).cell 5 rfl⟩⟩) (fun hHeld => ?_)
      clear hK K
      try simp only [Act.put, List.setIfInBounds_toArray, List.set_cons_zero, List.set_cons_succ]
      refine wpAnyH_take (i := 30) (oi := { dst := Option.some 118, op := Go.Op.pick (Go.Operand.tmp 112) (Go.Operand.tmp 117) (Go.Operand.const (Go.Value.bool Bool.false)), type := 4, pos := "laws.go:513", after := #[{ on := 24, ground := Go.Ground.data }, { on := 29, ground := Go.Ground.data }], guard := Option.none }) (v := ?_) rfl (by kernel_rfl) (by kernel_rfl) (by kernel_rfl) (fun _ _ _ h => h) (Or.inl ⟨by rfl, ?_⟩) hHeld ?_
      rotate_left
      · intro w hSw
        try dsimp only at hSw
        go_simp
        try (with_reducible rfl)
      simp only [Act.put, List.setIfInBounds_toArray, List.set_cons_zero, List.set_cons_succ]
      refine wpAnyH_take (i := 31) (oi := { dst := Option.some 119, op := Go.Op.move (Go.Operand.tmp 118), type := 4, pos := "laws.go:513", after := #[{ on := 30, ground := Go.Ground.data }, { on := 29, ground := Go.Ground.chain }], guard := Option.none }) (v := ?_) rfl (by kernel_rfl) (by kernel_rfl) (by kernel_rfl) (fun _ _ _ h => h) (Or.inl ⟨by rfl, ?_⟩) hHeld ?_
      rotate_left
      · intro w hSw
        try dsimp only at hSw
        go_simp
        try (with_reducible rfl)
      simp only [Act.put, List.setIfInBounds_toArray, List.set_cons_zero, List.set_cons_succ]
      refine wpAnyH_take (i := 32) (oi := { dst := Option.some 120, op := Go.Op.move (Go.Operand.tmp 14), type := 3, pos := "laws.go:513", after := #[{ on := 31, ground := Go.Ground.guard }], guard := Option.some (31, Bool.true) }) (v := ?_) rfl (by kernel_rfl) (by kernel_rfl) (by kernel_rfl) (fun _ _ _ h => h) (Or.inl ⟨by rfl, ?_⟩) hHeld ?_
      rotate_left
      · intro w hSw
        try dsimp only at hSw
        go_simp
        try (with_reducible rfl)
      simp only [Act.put, List.setIfInBounds_toArray, List.set_cons_zero, List.set_cons_succ]
      refine wpAnyH_take (i := 33) (oi := { dst := Option.some 121, op := Go.Op.binOp Go.BinOp.eql 3 (Go.Operand.tmp 120) (Go.Operand.const (Go.Value.int Go.IntKind.i64 4)) 3, type := 4, pos := "laws.go:513", after := #[{ on := 32, ground := Go.Ground.data }, { on := 31, ground := Go.Ground.guard }], guard := Option.some (31, Bool.true) }) (v := ?_) rfl (by kernel_rfl) (by kernel_rfl) (by kernel_rfl) (fun _ _ _ h => h) (Or.inl ⟨by rfl, ?_⟩) hHeld ?_
      rotate_left
      · intro w hSw
        try dsimp only at hSw
        go_simp
        try (with_reducible rfl)
      simp only [Act.put, List.setIfInBounds_toArray, List.set_cons_zero, List.set_cons_succ]
      refine wpAnyH_take (i := 34) (oi := { dst := Option.some 122, op := Go.Op.pick (Go.Operand.tmp 119) (Go.Operand.tmp 121) (Go.Operand.const (Go.Value.bool Bool.false)), type := 4, pos := "laws.go:513", after := #[{ on := 31, ground := Go.Ground.data }, { on := 33, ground := Go.Ground.data }], guard := Option.none }) (v := ?_) rfl (by kernel_rfl) (by kernel_rfl) (by kernel_rfl) (fun _ _ _ h => h) (Or.inl ⟨by rfl, ?_⟩) hHeld ?_
      rotate_left
      · intro w hSw
        try dsimp only at hSw
        go_simp
        try (with_reducible rfl)
      simp only [Act.put, List.setIfInBounds_toArray, List.set_cons_zero, List.set_cons_succ]
      refine wpAnyH_take (i := 35) (oi := { dst := Option.some 123, op := Go.Op.move (Go.Operand.tmp 122), type := 4, pos := "laws.go:513", after := #[{ on := 34, ground := Go.Ground.data }, { on := 31, ground := Go.Ground.chain }], guard := Option.none }) (v := ?_) rfl (by kernel_rfl) (by kernel_rfl) (by kernel_rfl) (fun _ _ _ h => h) (Or.inl ⟨by rfl, ?_⟩) hHeld ?_
      rotate_left
      · intro w hSw
        try dsimp only at hSw
        go_simp
        try (with_reducible rfl)
      simp only [Act.put, List.setIfInBounds_toArray, List.set_cons_zero, List.set_cons_succ]
      refine wpAnyH_take (i := 36) (oi := { dst := Option.some 124, op := Go.Op.move (Go.Operand.tmp 17), type := 3, pos := "laws.go:513", after := #[{ on := 35, ground := Go.Ground.guard }], guard := Option.some (35, Bool.true) }) (v := ?_) rfl (by kernel_rfl) (by kernel_rfl) (by kernel_rfl) (fun _ _ _ h => h) (Or.inl ⟨by rfl, ?_⟩) hHeld ?_
      rotate_left
      · intro w hSw
        try dsimp only at hSw
        go_simp
        try (with_reducible rfl)
      simp only [Act.put, List.setIfInBounds_toArray, List.set_cons_zero, List.set_cons_succ]
      refine wpAnyH_take (i := 37) (oi := { dst := Option.some 125, op := Go.Op.binOp Go.BinOp.eql 3 (Go.Operand.tmp 124) (Go.Operand.const (Go.Value.int Go.IntKind.i64 9)) 3, type := 4, pos := "laws.go:513", after := #[{ on := 36, ground := Go.Ground.data }, { on := 35, ground := Go.Ground.guard }], guard := Option.some (35, Bool.true) }) (v := ?_) rfl (by kernel_rfl) (by kernel_rfl) (by kernel_rfl) (fun _ _ _ h => h) (Or.inl ⟨by rfl, ?_⟩) hHeld ?_
      rotate_left
      · intro w hSw
        try dsimp only at hSw
        go_simp
        try (with_reducible rfl)
      simp only [Act.put, List.setIfInBounds_toArray, List.set_cons_zero, List.set_cons_succ]
      refine wpAnyH_take (i := 38) (oi := { dst := Option.some 126, op := Go.Op.move (Go.Operand.tmp 125), type := 4, pos := "laws.go:513", after := #[{ on := 37, ground := Go.Ground.data }, { on := 35, ground := Go.Ground.chain }, { on := 35, ground := Go.Ground.guard }], guard := Option.some (35, Bool.true) }) (v := ?_) rfl (by kernel_rfl) (by kernel_rfl) (by kernel_rfl) (fun _ _ _ h => h) (Or.inl ⟨by rfl, ?_⟩) hHeld ?_
      rotate_left
      · intro w hSw
        try dsimp only at hSw
        go_simp
        try (with_reducible rfl)
      simp only [Act.put, List.setIfInBounds_toArray, List.set_cons_zero, List.set_cons_succ]
      refine wpAnyH_take (i := 39) (oi := { dst := Option.some 127, op := Go.Op.load 27 (Go.Operand.tmp 15), type := 27, pos := "laws.go:513", after := #[{ on := 38, ground := Go.Ground.guard }], guard := Option.some (38, Bool.false) }) (v := undef) rfl (by kernel_rfl) (by kernel_rfl) (by kernel_rfl) (fun _ _ _ h => h) (Or.inr ⟨by rfl, rfl⟩) hHeld ?_
      simp only [Act.put, List.setIfInBounds_toArray, List.set_cons_zero, List.set_cons_succ]
      refine wpAnyH_take (i := 40) (oi := { dst := Option.some 128, op := Go.Op.call { callee := Go.Callee.value (Go.Operand.func 11), args := #[Go.Operand.tmp 127], argTypes := #[27] }, type := 9, pos := "laws.go:513", after := #[{ on := 39, ground := Go.Ground.data }, { on := 38, ground := Go.Ground.chain }, { on := 38, ground := Go.Ground.guard }], guard := Option.some (38, Bool.false) }) (v := undef) rfl (by kernel_rfl) (by kernel_rfl) (by kernel_rfl) (fun _ _ _ h => h) (Or.inr ⟨by rfl, rfl⟩) hHeld ?_
      simp only [Act.put, List.setIfInBounds_toArray, List.set_cons_zero, List.set_cons_succ]
      refine wpAnyH_take (i := 41) (oi := { dst := Option.some 129, op := Go.Op.load 27 (Go.Operand.tmp 5), type := 27, pos := "laws.go:513", after := #[{ on := 38, ground := Go.Ground.guard }], guard := Option.some (38, Bool.false) }) (v := undef) rfl (by kernel_rfl) (by kernel_rfl) (by kernel_rfl) (fun _ _ _ h => h) (Or.inr ⟨by rfl, rfl⟩) hHeld ?_
      simp only [Act.put, List.setIfInBounds_toArray, List.set_cons_zero, List.set_cons_succ]
      refine wpAnyH_take (i := 42) (oi := { dst := Option.some 130, op := Go.Op.call { callee := Go.Callee.value (Go.Operand.func 11), args := #[Go.Operand.tmp 129], argTypes := #[27] }, type := 9, pos := "laws.go:513", after := #[{ on := 41, ground := Go.Ground.data }, { on := 40, ground := Go.Ground.chain }, { on := 38, ground := Go.Ground.guard }], guard := Option.some (38, Bool.false) }) (v := undef) rfl (by kernel_rfl) (by kernel_rfl) (by kernel_rfl) (fun _ _ _ h => h) (Or.inr ⟨by rfl, rfl⟩) hHeld ?_
      simp only [Act.put, List.setIfInBounds_toArray, List.set_cons_zero, List.set_cons_succ]
      refine wpAnyH_take (i := 43) (oi := { dst := Option.some 131, op := Go.Op.binOp Go.BinOp.eql 9 (Go.Operand.tmp 128) (Go.Operand.tmp 130) 9, type := 4, pos := "laws.go:513", after := #[{ on := 40, ground := Go.Ground.data }, { on := 42, ground := Go.Ground.data }, { on := 38, ground := Go.Ground.guard }], guard := Option.some (38, Bool.false) }) (v := undef) rfl (by kernel_rfl) (by kernel_rfl) (by kernel_rfl) (fun _ _ _ h => h) (Or.inr ⟨by rfl, rfl⟩) hHeld ?_
      simp only [Act.put, List.setIfInBounds_toArray, List.set_cons_zero, List.set_cons_succ]
      refine wpAnyH_take (i := 44) (oi := { dst := Option.some 132, op := Go.Op.pick (Go.Operand.tmp 126) (Go.Operand.const (Go.Value.bool Bool.true)) (Go.Operand.tmp 131), type := 4, pos := "laws.go:513", after := #[{ on := 38, ground := Go.Ground.data }, { on := 43, ground := Go.Ground.data }, { on := 35, ground := Go.Ground.guard }], guard := Option.some (35, Bool.true) }) (v := ?_) rfl (by kernel_rfl) (by kernel_rfl) (by kernel_rfl) (fun _ _ _ h => h) (Or.inl ⟨by rfl, ?_⟩) hHeld ?_
      rotate_left
      · intro w hSw
        try dsimp only at hSw
        go_simp
        try (with_reducible rfl)
      simp only [Act.put, List.setIfInBounds_toArray, List.set_cons_zero, List.set_cons_succ]
      refine wpAnyH_take (i := 45) (oi := { dst := Option.some 133, op := Go.Op.pick (Go.Operand.tmp 123) (Go.Operand.tmp 132) (Go.Operand.const (Go.Value.bool Bool.false)), type := 4, pos := "laws.go:513", after := #[{ on := 35, ground := Go.Ground.data }, { on := 44, ground := Go.Ground.data }], guard := Option.none }) (v := ?_) rfl (by kernel_rfl) (by kernel_rfl) (by kernel_rfl) (fun _ _ _ h => h) (Or.inl ⟨by rfl, ?_⟩) hHeld ?_
      rotate_left
      · intro w hSw
        try dsimp only at hSw
        go_simp
        try (with_reducible rfl)
      simp only [Act.put, List.setIfInBounds_toArray, List.set_cons_zero, List.set_cons_succ]
      refine wpAnyH_take (i := 46) (oi := { dst := Option.some 2, op := Go.Op.assign (Go.Operand.tmp 133), type := 4, pos := "laws.go:513", after := #[{ on := 45, ground := Go.Ground.data }, { on := 42, ground := Go.Ground.chain }, { on := 0, ground := Go.Ground.phase }, { on := 1, ground := Go.Ground.phase }, { on := 2, ground := Go.Ground.phase }, { on := 3, ground := Go.Ground.phase }, { on := 4, ground := Go.Ground.phase }, { on := 5, ground := Go.Ground.phase }, { on := 6, ground := Go.Ground.phase }, { on := 7, ground := Go.Ground.phase }, { on := 8, ground := Go.Ground.phase }, { on := 9, ground := Go.Ground.phase }, { on := 10, ground := Go.Ground.phase }, { on := 11, ground := Go.Ground.phase }, { on := 12, ground := Go.Ground.phase }, { on := 13, ground := Go.Ground.phase }, { on := 14, ground := Go.Ground.phase }, { on := 15, ground := Go.Ground.phase }, { on := 16, ground := Go.Ground.phase }, { on := 17, ground := Go.Ground.phase }, { on := 18, ground := Go.Ground.phase }, { on := 19, ground := Go.Ground.phase }, { on := 20, ground := Go.Ground.phase }, { on := 21, ground := Go.Ground.phase }, { on := 22, ground := Go.Ground.phase }, { on := 23, ground := Go.Ground.phase }, { on := 24, ground := Go.Ground.phase }, { on := 25, ground := Go.Ground.phase }, { on := 26, ground := Go.Ground.phase }, { on := 27, ground := Go.Ground.phase }, { on := 28, ground := Go.Ground.phase }, { on := 29, ground := Go.Ground.phase }, { on := 30, ground := Go.Ground.phase }, { on := 31, ground := Go.Ground.phase }, { on := 32, ground := Go.Ground.phase }, { on := 33, ground := Go.Ground.phase }, { on := 34, ground := Go.Ground.phase }, { on := 35, ground := Go.Ground.phase }, { on := 36, ground := Go.Ground.phase }, { on := 37, ground := Go.Ground.phase }, { on := 38, ground := Go.Ground.phase }, { on := 39, ground := Go.Ground.phase }, { on := 40, ground := Go.Ground.phase }, { on := 41, ground := Go.Ground.phase }, { on := 42, ground := Go.Ground.phase }, { on := 43, ground := Go.Ground.phase }, { on := 44, ground := Go.Ground.phase }, { on := 45, ground := Go.Ground.phase }], guard := Option.none }) (v := ?_) rfl (by kernel_rfl) (by kernel_rfl) (by kernel_rfl) (fun _ _ _ h => h) (Or.inl ⟨by rfl, ?_⟩) hHeld ?_
      rotate_left
      · intro w hSw
        try dsimp only at hSw
        go_simp
        try (with_reducible rfl)
      simp only [Act.put, List.setIfInBounds_toArray, List.set_cons_zero, List.set_cons_succ]
      refine wpAnyH_done (by kernel_rfl) ?_ _
      go_wp2
      go_ret
      exact ⟨rfl, kb _ F4.out⟩
    · have hj := hbent.resolve_left hM
      rw [hj] at kHg
      clear hbent hj
      have h9 : decide (M = (9 : Int)) = false := decide_eq_false hM
      have h9b : (M == (9 : Int)) = false := by simp [hM]
      generalize headI ⟨xh, xt, xa, xv, xn, xd⟩ = J at *
      go_wp2_with fail
      try rw [hw11]
      clear hw11
      refine wp_region_held_drew (S := (fun W : World => (W.cell? ⟨b9, 0, none⟩ = some (.int .i64 xh) ∧ W.cell? ⟨b9, 1, none⟩ = some (.int .i64 xt) ∧ W.cell? ⟨b9, 2, none⟩ = some (.string xa) ∧ W.cell? ⟨b9, 3, none⟩ = some (.string xv) ∧ W.cell? ⟨b9, 4, none⟩ = some (.string xn) ∧ W.cell? ⟨b9, 5, none⟩ = some (.string xd) ∧ W.cell? ⟨b9, 6, none⟩ = some (.slice u1 nx.length c1)) ∧ (W.cell? ⟨w1.heap.size + 1, 0, none⟩ = some (.int .i64 yh) ∧ W.cell? ⟨w1.heap.size + 1, 1, none⟩ = some (.int .i64 yt) ∧ W.cell? ⟨w1.heap.size + 1, 2, none⟩ = some (.string ya) ∧ W.cell? ⟨w1.heap.size + 1, 3, none⟩ = some (.string yv) ∧ W.cell? ⟨w1.heap.size + 1, 4, none⟩ = some (.string yn) ∧ W.cell? ⟨w1.heap.size + 1, 5, none⟩ = some (.string yd) ∧ W.cell? ⟨w1.heap.size + 1, 6, none⟩ = some (.slice u l.length cu)) ∧ (W.cell? ⟨w1.heap.size + 2, 0, none⟩ = some (.int .i64 xh) ∧ W.cell? ⟨w1.heap.size + 2, 1, none⟩ = some (.int .i64 xt) ∧ W.cell? ⟨w1.heap.size + 2, 2, none⟩ = some (.string xa) ∧ W.cell? ⟨w1.heap.size + 2, 3, none⟩ = some (.string xv) ∧ W.cell? ⟨w1.heap.size + 2, 4, none⟩ = some (.string xn) ∧ W.cell? ⟨w1.heap.size + 2, 5, none⟩ = some (.string xd)) ∧ (W.cell? ⟨w1.heap.size + 3, 0, none⟩ = some (.int .i64 ch) ∧ W.cell? ⟨w1.heap.size + 3, 1, none⟩ = some (.int .i64 cr) ∧ W.cell? ⟨w1.heap.size + 3, 2, none⟩ = some (.string ci) ∧ W.cell? ⟨w1.heap.size + 3, 3, none⟩ = some (.slice uc cl.length cc)) ∧ (W.cell? ⟨b13 + 1, 0, none⟩ = some (.int .i64 xh) ∧ W.cell? ⟨b13 + 1, 1, none⟩ = some (.int .i64 xt) ∧ W.cell? ⟨b13 + 1, 2, none⟩ = some (.string xa) ∧ W.cell? ⟨b13 + 1, 3, none⟩ = some (.string xv) ∧ W.cell? ⟨b13 + 1, 4, none⟩ = some (.string xn) ∧ W.cell? ⟨b13 + 1, 5, none⟩ = some (.string ⟨#[122, 122]⟩)))) (by kernel_rfl) ?_ (fun hHeld => ?_)
      · exact ⟨⟨(K9d.out).cell 0 rfl, (K9d.out).cell 1 rfl, (K9d.out).cell 2 rfl, (K9d.out).cell 3 rfl, (K9d.out).cell 4 rfl, (K9d.out).cell 5 rfl, (K9d.out).cell 6 rfl⟩, ⟨(HFd.out.1.2.1).cell 0 rfl, (HFd.out.1.2.1).cell 1 rfl, (HFd.out.1.2.1).cell 2 rfl, (HFd.out.1.2.1).cell 3 rfl, (HFd.out.1.2.1).cell 4 rfl, (HFd.out.1.2.1).cell 5 rfl, (HFd.out.1.2.1).cell 6 rfl⟩, ⟨(HFd.out.1.2.2.1).cell 0 rfl, (HFd.out.1.2.2.1).cell 1 rfl, (HFd.out.1.2.2.1).cell 2 rfl, (HFd.out.1.2.2.1).cell 3 rfl, (HFd.out.1.2.2.1).cell 4 rfl, (HFd.out.1.2.2.1).cell 5 rfl⟩, ⟨(HFd.out.1.2.2.2.1).cell 0 rfl, (HFd.out.1.2.2.2.1).cell 1 rfl, (HFd.out.1.2.2.2.1).cell 2 rfl, (HFd.out.1.2.2.2.1).cell 3 rfl⟩, ⟨(Kgd.out).cell 0 rfl, (Kgd.out).cell 1 rfl, (Kgd.out).cell 2 rfl, (Kgd.out).cell 3 rfl, (Kgd.out).cell 4 rfl, (Kgd.out).cell 5 rfl⟩⟩
      generalize w11.drew = wd at *
      refine wpAnyH_take (i := 0) (oi := { dst := Option.some 88, op := Go.Op.load 30 (Go.Operand.tmp 9), type := 30, pos := "laws.go:513", after := #[], guard := Option.none }) (v := ?_) rfl (by kernel_rfl) (by kernel_rfl) (by kernel_rfl) (fun _ _ _ h => h) (Or.inl ⟨by rfl, ?_⟩) hHeld ?_
      rotate_left
      · intro w hSw
        try dsimp only at hSw
        go_simp
        try (with_reducible rfl)
      simp only [Act.put, List.setIfInBounds_toArray, List.set_cons_zero, List.set_cons_succ]
      refine wpAnyH_ready (rs := [1]) (by kernel_rfl) (by decide) ?_
      refine AllReadyH.cons (o := { dst := Option.some 89, op := Go.Op.call { callee := Go.Callee.value (Go.Operand.func 10), args := #[Go.Operand.tmp 88], argTypes := #[30] }, type := 4, pos := "laws.go:513", after := #[{ on := 0, ground := Go.Ground.data }], guard := Option.none }) rfl (fun K hK => ?_) AllReadyH.nil
      go_simp
      go_at_call 10
      refine (kO u1 c1 _ hVd.out).mono ?_
      rintro e v5 ⟨rfl, bw5⟩
      have F5 : Hid (FvS w1 v5 ⟨tp, ts⟩ ⟨yh, yt, ya, yv, yn, yd⟩ l u cu ⟨xh, xt, xa, xv, xn, xd⟩ nx un ⟨ch, cr, ci, cl⟩ uc cc) := HFd.out.step bw5
      have K5 : Hid (Blk v5 b9 [.int .i64 xh, .int .i64 xt, .string xa, .string xv, .string xn, .string xd, .slice u1 nx.length c1] 30) := K9d.out.below bw5 K9d.out.lt
      have G5 : Hid (Blk v5 (b13 + 1) [.int .i64 xh, .int .i64 xt, .string xa, .string xv, .string xn, .string ⟨#[122, 122]⟩] 27) := Kgd.out.below bw5 Kgd.out.lt
      clear bw5
      refine hK.out _ _ (⟨⟨(K5.out).cell 0 rfl, (K5.out).cell 1 rfl, (K5.out).cell 2 rfl, (K5.out).cell 3 rfl, (K5.out).cell 4 rfl, (K5.out).cell 5 rfl, (K5.out).cell 6 rfl⟩, ⟨(F5.out.1.2.1).cell 0 rfl, (F5.out.1.2.1).cell 1 rfl, (F5.out.1.2.1).cell 2 rfl, (F5.out.1.2.1).cell 3 rfl, (F5.out.1.2.1).cell 4 rfl, (F5.out.1.2.1).cell 5 rfl, (F5.out.1.2.1).cell 6 rfl⟩, ⟨(F5.out.1.2.2.1).cell 0 rfl, (F5.out.1.2.2.1).cell 1 rfl, (F5.out.1.2.2.1).cell 2 rfl, (F5.out.1.2.2.1).cell 3 rfl, (F5.out.1.2.2.1).cell 4 rfl, (F5.out.1.2.2.1).cell 5 rfl⟩, ⟨(F5.out.1.2.2.2.1).cell 0 rfl, (F5.out.1.2.2.2.1).cell 1 rfl, (F5.out.1.2.2.2.1).cell 2 rfl, (F5.out.1.2.2.2.1).cell 3 rfl⟩, ⟨(G5.out).cell 0 rfl, (G5.out).cell 1 rfl, (G5.out).cell 2 rfl, (G5.out).cell 3 rfl, (G5.out).cell 4 rfl, (G5.out).cell 5 rfl⟩⟩) (fun hHeld => ?_)
      clear hK K
      try simp only [Act.put, List.setIfInBounds_toArray, List.set_cons_zero, List.set_cons_succ]
      refine wpAnyH_take (i := 2) (oi := { dst := Option.some 90, op := Go.Op.move (Go.Operand.tmp 89), type := 4, pos := "laws.go:513", after := #[{ on := 1, ground := Go.Ground.data }, { on := 1, ground := Go.Ground.chain }], guard := Option.none }) (v := ?_) rfl (by kernel_rfl) (by kernel_rfl) (by kernel_rfl) (fun _ _ _ h => h) (Or.inl ⟨by rfl, ?_⟩) hHeld ?_
      rotate_left
      · intro w hSw
        try dsimp only at hSw
        go_simp
        try (with_reducible rfl)
      simp only [Act.put, List.setIfInBounds_toArray, List.set_cons_zero, List.set_cons_succ]
      refine wpAnyH_take (i := 3) (oi := { dst := Option.some 91, op := Go.Op.fieldAddr 30 (Go.Operand.tmp 9) 0, type := 0, pos := "laws.go:513", after := #[{ on := 2, ground := Go.Ground.guard }], guard := Option.some (2, Bool.true) }) (v := ?_) rfl (by kernel_rfl) (by kernel_rfl) (by kernel_rfl) (fun _ _ _ h => h) (Or.inl ⟨by rfl, ?_⟩) hHeld ?_
      rotate_left
      · intro w hSw
        try dsimp only at hSw
        go_simp
        try (with_reducible rfl)
      simp only [Act.put, List.setIfInBounds_toArray, List.set_cons_zero, List.set_cons_succ]
      refine wpAnyH_take (i := 4) (oi := { dst := Option.some 92, op := Go.Op.load 27 (Go.Operand.tmp 91), type := 27, pos := "laws.go:513", after := #[{ on := 3, ground := Go.Ground.data }, { on := 2, ground := Go.Ground.guard }], guard := Option.some (2, Bool.true) }) (v := ?_) rfl (by kernel_rfl) (by kernel_rfl) (by kernel_rfl) (fun _ _ _ h => h) (Or.inl ⟨by rfl, ?_⟩) hHeld ?_
      rotate_left
      · intro w hSw
        try dsimp only at hSw
        go_simp
        try (with_reducible rfl)
      simp only [Act.put, List.setIfInBounds_toArray, List.set_cons_zero, List.set_cons_succ]
      refine wpAnyH_take (i := 5) (oi := { dst := Option.some 93, op := Go.Op.load 27 (Go.Operand.tmp 5), type := 27, pos := "laws.go:513", after := #[{ on := 2, ground := Go.Ground.guard }], guard := Option.some (2, Bool.true) }) (v := ?_) rfl (by kernel_rfl) (by kernel_rfl) (by kernel_rfl) (fun _ _ _ h => h) (Or.inl ⟨by rfl, ?_⟩) hHeld ?_
      rotate_left
      · intro w hSw
        try dsimp only at hSw
        go_simp
        try (with_reducible rfl)
      simp only [Act.put, List.setIfInBounds_toArray, List.set_cons_zero, List.set_cons_succ]
      refine wpAnyH_take (i := 6) (oi := { dst := Option.some 94, op := Go.Op.binOp Go.BinOp.eql 27 (Go.Operand.tmp 92) (Go.Operand.tmp 93) 27, type := 4, pos := "laws.go:513", after := #[{ on := 4, ground := Go.Ground.data }, { on := 5, ground := Go.Ground.data }, { on := 2, ground := Go.Ground.guard }], guard := Option.some (2, Bool.true) }) (v := ?_) rfl (by kernel_rfl) (by kernel_rfl) (by kernel_rfl) (fun _ _ _ h => h) (Or.inl ⟨by rfl, ?_⟩) hHeld ?_
      rotate_left
      · intro w hSw
        try dsimp only at hSw
        go_simp
        try (with_reducible rfl)
      simp only [Act.put, List.setIfInBounds_toArray, List.set_cons_zero, List.set_cons_succ]
      refine wpAnyH_take (i := 7) (oi := { dst := Option.some 95, op := Go.Op.pick (Go.Operand.tmp 90) (Go.Operand.tmp 94) (Go.Operand.const (Go.Value.bool Bool.false)), type := 4, pos := "laws.go:513", after := #[{ on := 2, ground := Go.Ground.data }, { on := 6, ground := Go.Ground.data }], guard := Option.none }) (v := ?_) rfl (by kernel_rfl) (by kernel_rfl) (by kernel_rfl) (fun _ _ _ h => h) (Or.inl ⟨by rfl, ?_⟩) hHeld ?_
      rotate_left
      · intro w hSw
        try dsimp only at hSw
        go_simp
        try (with_reducible rfl)
      simp only [Act.put, List.setIfInBounds_toArray, List.set_cons_zero, List.set_cons_succ]
      refine wpAnyH_take (i := 8) (oi := { dst := Option.some 96, op := Go.Op.move (Go.Operand.tmp 95), type := 4, pos := "laws.go:513", after := #[{ on := 7, ground := Go.Ground.data }, { on := 2, ground := Go.Ground.chain }], guard := Option.none }) (v := ?_) rfl (by kernel_rfl) (by kernel_rfl) (by kernel_rfl) (fun _ _ _ h => h) (Or.inl ⟨by rfl, ?_⟩) hHeld ?_
      rotate_left
      · intro w hSw
        try dsimp only at hSw
        go_simp
        try (with_reducible rfl)
      simp only [Act.put, List.setIfInBounds_toArray, List.set_cons_zero, List.set_cons_succ]
      refine wpAnyH_take (i := 9) (oi := { dst := Option.some 97, op := Go.Op.fieldAddr 27 (Go.Operand.tmp 5) 2, type := 0, pos := "laws.go:513", after := #[{ on := 8, ground := Go.Ground.guard }], guard := Option.some (8, Bool.true) }) (v := ?_) rfl (by kernel_rfl) (by kernel_rfl) (by kernel_rfl) (fun _ _ _ h => h) (Or.inl ⟨by rfl, ?_⟩) hHeld ?_
      rotate_left
      · intro w hSw
        try dsimp only at hSw
        go_simp
        try (with_reducible rfl)
      simp only [Act.put, List.setIfInBounds_toArray, List.set_cons_zero, List.set_cons_succ]
      refine wpAnyH_take (i := 10) (oi := { dst := Option.some 98, op := Go.Op.load 9 (Go.Operand.tmp 97), type := 9, pos := "laws.go:513", after := #[{ on := 9, ground := Go.Ground.data }, { on := 8, ground := Go.Ground.guard }], guard := Option.some (8, Bool.true) }) (v := ?_) rfl (by kernel_rfl) (by kernel_rfl) (by kernel_rfl) (fun _ _ _ h => h) (Or.inl ⟨by rfl, ?_⟩) hHeld ?_
      rotate_left
      · intro w hSw
        try dsimp only at hSw
        go_simp
        try (with_reducible rfl)
      simp only [Act.put, List.setIfInBounds_toArray, List.set_cons_zero, List.set_cons_succ]
      refine wpAnyH_take (i := 11) (oi := { dst := Option.some 99, op := Go.Op.fieldAddr 30 (Go.Operand.tmp 4) 0, type := 0, pos := "laws.go:513", after := #[{ on := 8, ground := Go.Ground.guard }], guard := Option.some (8, Bool.true) }) (v := ?_) rfl (by kernel_rfl) (by kernel_rfl) (by kernel_rfl) (fun _ _ _ h => h) (Or.inl ⟨by rfl, ?_⟩) hHeld ?_
      rotate_left
      · intro w hSw
        try dsimp only at hSw
        go_simp
        try (with_reducible rfl)
      simp only [Act.put, List.setIfInBounds_toArray, List.set_cons_zero, List.set_cons_succ]
      refine wpAnyH_take (i := 12) (oi := { dst := Option.some 100, op := Go.Op.load 27 (Go.Operand.tmp 99), type := 27, pos := "laws.go:513", after := #[{ on := 11, ground := Go.Ground.data }, { on := 8, ground := Go.Ground.guard }], guard := Option.some (8, Bool.true) }) (v := ?_) rfl (by kernel_rfl) (by kernel_rfl) (by kernel_rfl) (fun _ _ _ h => h) (Or.inl ⟨by rfl, ?_⟩) hHeld ?_
      rotate_left
      · intro w hSw
        try dsimp only at hSw
        go_simp
        try (with_reducible rfl)
      simp only [Act.put, List.setIfInBounds_toArray, List.set_cons_zero, List.set_cons_succ]
      refine wpAnyH_ready (rs := [13]) (by kernel_rfl) (by decide) ?_
      refine AllReadyH.cons (o := { dst := Option.some 101, op := Go.Op.call { callee := Go.Callee.value (Go.Operand.func 11), args := #[Go.Operand.tmp 100], argTypes := #[27] }, type := 9, pos := "laws.go:513", after := #[{ on := 12, ground := Go.Ground.data }, { on := 8, ground := Go.Ground.chain }, { on := 8, ground := Go.Ground.guard }], guard := Option.some (8, Bool.true) }) rfl (fun K hK => ?_) AllReadyH.nil
      go_simp
      go_at_call 11
      refine (kHy _).mono ?_
      rintro e v6 ⟨rfl, bw6⟩
      have F6 : Hid (FvS w1 v6 ⟨tp, ts⟩ ⟨yh, yt, ya, yv, yn, yd⟩ l u cu ⟨xh, xt, xa, xv, xn, xd⟩ nx un ⟨ch, cr, ci, cl⟩ uc cc) := F5.out.step bw6
      have K6 : Hid (Blk v6 b9 [.int .i64 xh, .int .i64 xt, .string xa, .string xv, .string xn, .string xd, .slice u1 nx.length c1] 30) := K5.out.below bw6 K5.out.lt
      have G6 : Hid (Blk v6 (b13 + 1) [.int .i64 xh, .int .i64 xt, .string xa, .string xv, .string xn, .string ⟨#[122, 122]⟩] 27) := G5.out.below bw6 G5.out.lt
      clear bw6
      refine hK.out _ _ (⟨⟨(K6.out).cell 0 rfl, (K6.out).cell 1 rfl, (K6.out).cell 2 rfl, (K6.out).cell 3 rfl, (K6.out).cell 4 rfl, (K6.out).cell 5 rfl, (K6.out).cell 6 rfl⟩, ⟨(F6.out.1.2.1).cell 0 rfl, (F6.out.1.2.1).cell 1 rfl, (F6.out.1.2.1).cell 2 rfl, (F6.out.1.2.1).cell 3 rfl, (F6.out.1.2.1).cell 4 rfl, (F6.out.1.2.1).cell 5 rfl, (F6.out.1.2.1).cell 6 rfl⟩, ⟨(F6.out.1.2.2.1).cell 0 rfl, (F6.out.1.2.2.1).cell 1 rfl, (F6.out.1.2.2.1).cell 2 rfl, (F6.out.1.2.2.1).cell 3 rfl, (F6.out.1.2.2.1).cell 4 rfl, (F6.out.1.2.2.1).cell 5 rfl⟩, ⟨(F6.out.1.2.2.2.1).cell 0 rfl, (F6.out.1.2.2.2.1).cell 1 rfl, (F6.out.1.2.2.2.1).cell 2 rfl, (F6.out.1.2.2.2.1).cell 3 rfl⟩, ⟨(G6.out).cell 0 rfl, (G6.out).cell 1 rfl, (G6.out).cell 2 rfl, (G6.out).cell 3 rfl, (G6.out).cell 4 rfl, (G6.out).cell 5 rfl⟩⟩) (fun hHeld => ?_)
      clear hK K
      try simp only [Act.put, List.setIfInBounds_toArray, List.set_cons_zero, List.set_cons_succ]
      refine wpAnyH_take (i := 14) (oi := { dst := Option.some 102, op := Go.Op.binOp Go.BinOp.eql 9 (Go.Operand.tmp 98) (Go.Operand.tmp 101) 9, type := 4, pos := "laws.go:513", after := #[{ on := 10, ground := Go.Ground.data }, { on := 13, ground := Go.Ground.data }, { on := 8, ground := Go.Ground.guard }], guard := Option.some (8, Bool.true) }) (v := ?_) rfl (by kernel_rfl) (by kernel_rfl) (by kernel_rfl) (fun _ _ _ h => h) (Or.inl ⟨by rfl, ?_⟩) hHeld ?_
      rotate_left
      · intro w hSw
        try dsimp only at hSw
        go_simp
        try (with_reducible rfl)
      simp only [Act.put, List.setIfInBounds_toArray, List.set_cons_zero, List.set_cons_succ]
      refine wpAnyH_take (i := 15) (oi := { dst := Option.some 103, op := Go.Op.pick (Go.Operand.tmp 96) (Go.Operand.tmp 102) (Go.Operand.const (Go.Value.bool Bool.false)), type := 4, pos := "laws.go:513", after := #[{ on := 8, ground := Go.Ground.data }, { on := 14, ground := Go.Ground.data }], guard := Option.none }) (v := ?_) rfl (by kernel_rfl) (by kernel_rfl) (by kernel_rfl) (fun _ _ _ h => h) (Or.inl ⟨by rfl, ?_⟩) hHeld ?_
      rotate_left
      · intro w hSw
        try dsimp only at hSw
        go_simp
        try (with_reducible rfl)
      simp only [Act.put, List.setIfInBounds_toArray, List.set_cons_zero, List.set_cons_succ]
      refine wpAnyH_take (i := 16) (oi := { dst := Option.some 104, op := Go.Op.move (Go.Operand.tmp 103), type := 4, pos := "laws.go:513", after := #[{ on := 15, ground := Go.Ground.data }, { on := 13, ground := Go.Ground.chain }], guard := Option.none }) (v := ?_) rfl (by kernel_rfl) (by kernel_rfl) (by kernel_rfl) (fun _ _ _ h => h) (Or.inl ⟨by rfl, ?_⟩) hHeld ?_
      rotate_left
      · intro w hSw
        try dsimp only at hSw
        go_simp
        try (with_reducible rfl)
      simp only [Act.put, List.setIfInBounds_toArray, List.set_cons_zero, List.set_cons_succ]
      refine wpAnyH_take (i := 17) (oi := { dst := Option.some 105, op := Go.Op.fieldAddr 27 (Go.Operand.tmp 5) 1, type := 0, pos := "laws.go:513", after := #[{ on := 16, ground := Go.Ground.guard }], guard := Option.some (16, Bool.true) }) (v := ?_) rfl (by kernel_rfl) (by kernel_rfl) (by kernel_rfl) (fun _ _ _ h => h) (Or.inl ⟨by rfl, ?_⟩) hHeld ?_
      rotate_left
      · intro w hSw
        try dsimp only at hSw
        go_simp
        try (with_reducible rfl)
      simp only [Act.put, List.setIfInBounds_toArray, List.set_cons_zero, List.set_cons_succ]
      refine wpAnyH_take (i := 18) (oi := { dst := Option.some 106, op := Go.Op.load 3 (Go.Operand.tmp 105), type := 3, pos := "laws.go:513", after := #[{ on := 17, ground := Go.Ground.data }, { on := 16, ground := Go.Ground.guard }], guard := Option.some (16, Bool.true) }) (v := ?_) rfl (by kernel_rfl) (by kernel_rfl) (by kernel_rfl) (fun _ _ _ h => h) (Or.inl ⟨by rfl, ?_⟩) hHeld ?_
      rotate_left
      · intro w hSw
        try dsimp only at hSw
        go_simp
        try (with_reducible rfl)
      simp only [Act.put, List.setIfInBounds_toArray, List.set_cons_zero, List.set_cons_succ]
      refine wpAnyH_take (i := 19) (oi := { dst := Option.some 107, op := Go.Op.fieldAddr 30 (Go.Operand.tmp 4) 0, type := 0, pos := "laws.go:513", after := #[{ on := 16, ground := Go.Ground.guard }], guard := Option.some (16, Bool.true) }) (v := ?_) rfl (by kernel_rfl) (by kernel_rfl) (by kernel_rfl) (fun _ _ _ h => h) (Or.inl ⟨by rfl, ?_⟩) hHeld ?_
      rotate_left
      · intro w hSw
        try dsimp only at hSw
        go_simp
        try (with_reducible rfl)
      simp only [Act.put, List.setIfInBounds_toArray, List.set_cons_zero, List.set_cons_succ]
      refine wpAnyH_take (i := 20) (oi := { dst := Option.some 108, op := Go.Op.fieldAddr 27 (Go.Operand.tmp 107) 1, type := 0, pos := "laws.go:513", after := #[{ on := 19, ground := Go.Ground.data }, { on := 16, ground := Go.Ground.guard }], guard := Option.some (16, Bool.true) }) (v := ?_) rfl (by kernel_rfl) (by kernel_rfl) (by kernel_rfl) (fun _ _ _ h => h) (Or.inl ⟨by rfl, ?_⟩) hHeld ?_
      rotate_left
      · intro w hSw
        try dsimp only at hSw
        go_simp
        try (with_reducible rfl)
      simp only [Act.put, List.setIfInBounds_toArray, List.set_cons_zero, List.set_cons_succ]
      refine wpAnyH_take (i := 21) (oi := { dst := Option.some 109, op := Go.Op.load 3 (Go.Operand.tmp 108), type := 3, pos := "laws.go:513", after := #[{ on := 20, ground := Go.Ground.data }, { on := 16, ground := Go.Ground.guard }], guard := Option.some (16, Bool.true) }) (v := ?_) rfl (by kernel_rfl) (by kernel_rfl) (by kernel_rfl) (fun _ _ _ h => h) (Or.inl ⟨by rfl, ?_⟩) hHeld ?_
      rotate_left
      · intro w hSw
        try dsimp only at hSw
        go_simp
        try (with_reducible rfl)
      simp only [Act.put, List.setIfInBounds_toArray, List.set_cons_zero, List.set_cons_succ]
      refine wpAnyH_take (i := 22) (oi := { dst := Option.some 110, op := Go.Op.binOp Go.BinOp.gtr 3 (Go.Operand.tmp 106) (Go.Operand.tmp 109) 3, type := 4, pos := "laws.go:513", after := #[{ on := 18, ground := Go.Ground.data }, { on := 21, ground := Go.Ground.data }, { on := 16, ground := Go.Ground.guard }], guard := Option.some (16, Bool.true) }) (v := ?_) rfl (by kernel_rfl) (by kernel_rfl) (by kernel_rfl) (fun _ _ _ h => h) (Or.inl ⟨by rfl, ?_⟩) hHeld ?_
      rotate_left
      · intro w hSw
        try dsimp only at hSw
        go_simp
        try (with_reducible rfl)
      simp only [Act.put, List.setIfInBounds_toArray, List.set_cons_zero, List.set_cons_succ]
      refine wpAnyH_take (i := 23) (oi := { dst := Option.some 111, op := Go.Op.pick (Go.Operand.tmp 104) (Go.Operand.tmp 110) (Go.Operand.const (Go.Value.bool Bool.false)), type := 4, pos := "laws.go:513", after := #[{ on := 16, ground := Go.Ground.data }, { on := 22, ground := Go.Ground.data }], guard := Option.none }) (v := ?_) rfl (by kernel_rfl) (by kernel_rfl) (by kernel_rfl) (fun _ _ _ h => h) (Or.inl ⟨by rfl, ?_⟩) hHeld ?_
      rotate_left
      · intro w hSw
        try dsimp only at hSw
        go_simp
        try (with_reducible rfl)
      simp only [Act.put, List.setIfInBounds_toArray, List.set_cons_zero, List.set_cons_succ]
      refine wpAnyH_take (i := 24) (oi := { dst := Option.some 112, op := Go.Op.move (Go.Operand.tmp 111), type := 4, pos := "laws.go:513", after := #[{ on := 23, ground := Go.Ground.data }, { on := 16, ground := Go.Ground.chain }], guard := Option.none }) (v := ?_) rfl (by kernel_rfl) (by kernel_rfl) (by kernel_rfl) (fun _ _ _ h => h) (Or.inl ⟨by rfl, ?_⟩) hHeld ?_
      rotate_left
      · intro w hSw
        try dsimp only at hSw
        go_simp
        try (with_reducible rfl)
      simp only [Act.put, List.setIfInBounds_toArray, List.set_cons_zero, List.set_cons_succ]
      refine wpAnyH_take (i := 25) (oi := { dst := Option.some 113, op := Go.Op.fieldAddr 30 (Go.Operand.tmp 4) 1, type := 0, pos := "laws.go:513", after := #[{ on := 24, ground := Go.Ground.guard }], guard := Option.some (24, Bool.true) }) (v := ?_) rfl (by kernel_rfl) (by kernel_rfl) (by kernel_rfl) (fun _ _ _ h => h) (Or.inl ⟨by rfl, ?_⟩) hHeld ?_
      rotate_left
      · intro w hSw
        try dsimp only at hSw
        go_simp
        try (with_reducible rfl)
      simp only [Act.put, List.setIfInBounds_toArray, List.set_cons_zero, List.set_cons_succ]
      refine wpAnyH_take (i := 26) (oi := { dst := Option.some 114, op := Go.Op.load 28 (Go.Operand.tmp 113), type := 28, pos := "laws.go:513", after := #[{ on := 25, ground := Go.Ground.data }, { on := 24, ground := Go.Ground.guard }], guard := Option.some (24, Bool.true) }) (v := ?_) rfl (by kernel_rfl) (by kernel_rfl) (by kernel_rfl) (fun _ _ _ h => h) (Or.inl ⟨by rfl, ?_⟩) hHeld ?_
      rotate_left
      · intro w hSw
        try dsimp only at hSw
        go_simp
        try (with_reducible rfl)
      simp only [Act.put, List.setIfInBounds_toArray, List.set_cons_zero, List.set_cons_succ]
      refine wpAnyH_take (i := 27) (oi := { dst := Option.some 115, op := Go.Op.load 33 (Go.Operand.tmp 7), type := 33, pos := "laws.go:513", after := #[{ on := 24, ground := Go.Ground.guard }], guard := Option.some (24, Bool.true) }) (v := ?_) rfl (by kernel_rfl) (by kernel_rfl) (by kernel_rfl) (fun _ _ _ h => h) (Or.inl ⟨by rfl, ?_⟩) hHeld ?_
      rotate_left
      · intro w hSw
        try dsimp only at hSw
        go_simp
        try (with_reducible rfl)
      simp only [Act.put, List.setIfInBounds_toArray, List.set_cons_zero, List.set_cons_succ]
      refine wpAnyH_ready (rs := [28]) (by kernel_rfl) (by decide) ?_
      refine AllReadyH.cons (o := { dst := Option.some 116, op := Go.Op.call { callee := Go.Callee.value (Go.Operand.func 13), args := #[Go.Operand.tmp 115], argTypes := #[33] }, type := 42, pos := "laws.go:513", after := #[{ on := 27, ground := Go.Ground.data }, { on := 24, ground := Go.Ground.chain }, { on := 24, ground := Go.Ground.guard }], guard := Option.some (24, Bool.true) }) rfl (fun K hK => ?_) AllReadyH.nil
      go_simp
      go_at_call 13
      refine (kC _ F6.out).mono ?_
      rintro e v7 ⟨q, rfl, HOq, bw7⟩
      have F7 : Hid (FvS w1 v7 ⟨tp, ts⟩ ⟨yh, yt, ya, yv, yn, yd⟩ l u cu ⟨xh, xt, xa, xv, xn, xd⟩ nx un ⟨ch, cr, ci, cl⟩ uc cc) := F6.out.step bw7
      have K7 : Hid (Blk v7 b9 [.int .i64 xh, .int .i64 xt, .string xa, .string xv, .string xn, .string xd, .slice u1 nx.length c1] 30) := K6.out.below bw7 K6.out.lt
      have G7 : Hid (Blk v7 (b13 + 1) [.int .i64 xh, .int .i64 xt, .string xa, .string xv, .string xn, .string ⟨#[122, 122]⟩] 27) := G6.out.below bw7 G6.out.lt
      obtain ⟨ia, ic, rfl, hNq⟩ := OwnI.sln HOq
      have N7 : Hid (Nums v7 ia ids) := hNq
      clear HOq hNq
      clear bw7
      refine hK.out _ _ (⟨⟨(K7.out).cell 0 rfl, (K7.out).cell 1 rfl, (K7.out).cell 2 rfl, (K7.out).cell 3 rfl, (K7.out).cell 4 rfl, (K7.out).cell 5 rfl, (K7.out).cell 6 rfl⟩, ⟨(F7.out.1.2.1).cell 0 rfl, (F7.out.1.2.1).cell 1 rfl, (F7.out.1.2.1).cell 2 rfl, (F7.out.1.2.1).cell 3 rfl, (F7.out.1.2.1).cell 4 rfl, (F7.out.1.2.1).cell 5 rfl, (F7.out.1.2.1).cell 6 rfl⟩, ⟨(F7.out.1.2.2.1).cell 0 rfl, (F7.out.1.2.2.1).cell 1 rfl, (F7.out.1.2.2.1).cell 2 rfl, (F7.out.1.2.2.1).cell 3 rfl, (F7.out.1.2.2.1).cell 4 rfl, (F7.out.1.2.2.1).cell 5 rfl⟩, ⟨(F7.out.1.2.2.2.1).cell 0 rfl, (F7.out.1.2.2.2.1).cell 1 rfl, (F7.out.1.2.2.2.1).cell 2 rfl, (F7.out.1.2.2.2.1).cell 3 rfl⟩, ⟨(G7.out).cell 0 rfl, (G7.out).cell 1 rfl, (G7.out).cell 2 rfl, (G7.out).cell 3 rfl, (G7.out).cell 4 rfl, (G7.out).cell 5 rfl⟩⟩) (fun hHeld => ?_)
      clear hK K
      try simp only [Act.put, List.setIfInBounds_toArray, List.set_cons_zero, List.set_cons_succ]
      refine wpAnyH_ready (rs := [29]) (by kernel_rfl) (by decide) ?_
      refine AllReadyH.cons (o := { dst := Option.some 117, op := Go.Op.call { callee := Go.Callee.value (Go.Operand.func 12), args := #[Go.Operand.tmp 114, Go.Operand.tmp 116], argTypes := #[28, 42] }, type := 4, pos := "laws.go:513", after := #[{ on := 26, ground := Go.Ground.data }, { on := 28, ground := Go.Ground.data }, { on := 28, ground := Go.Ground.chain }, { on := 24, ground := Go.Ground.guard }], guard := Option.some (24, Bool.true) }) rfl (fun K hK => ?_) AllReadyH.nil
      go_simp
      go_at_call 12
      refine (kE ia ic _ F7.out N7.out).mono ?_
      rintro e v8 ⟨rfl, bw8⟩
      have F8 : Hid (FvS w1 v8 ⟨tp, ts⟩ ⟨yh, yt, ya, yv, yn, yd⟩ l u cu ⟨xh, xt, xa, xv, xn, xd⟩ nx un ⟨ch, cr, ci, cl⟩ uc cc) := F7.out.step bw8
      have K8 : Hid (Blk v8 b9 [.int .i64 xh, .int .i64 xt, .string xa, .string xv, .string xn, .string xd, .slice u1 nx.length c1] 30) := K7.out.below bw8 K7.out.lt
      have G8 : Hid (Blk v8 (b13 + 1) [.int .i64 xh, .int .i64 xt, .string xa, .string xv, .string xn, .string ⟨#[122, 122]⟩] 27) := G7.out.below bw8 G7.out.lt
      clear bw8
      refine hK.out _ _ (⟨⟨(K8.out).cell 0 rfl, (K8.out).cell 1 rfl, (K8.out).cell 2 rfl, (K8.out).cell 3 rfl, (K8.out).cell 4 rfl, (K8.out).cell 5 rfl, (K8.out).cell 6 rfl⟩, ⟨(F8.out.1.2.1).cell 0 rfl, (F8.out.1.2.1).cell 1 rfl, (F8.out.1.2.1).cell 2 rfl, (F8.out.1.2.1).cell 3 rfl, (F8.out.1.2.1).cell 4 rfl, (F8.out.1.2.1).cell 5 rfl, (F8.out.1.2.1).cell 6 rfl⟩, ⟨(F8.out.1.2.2.1).cell 0 rfl, (F8.out.1.2.2.1).cell 1 rfl, (F8.out.1.2.2.1).cell 2 rfl, (F8.out.1.2.2.1).cell 3 rfl, (F8.out.1.2.2.1).cell 4 rfl, (F8.out.1.2.2.1).cell 5 rfl⟩, ⟨(F8.out.1.2.2.2.1).cell 0 rfl, (F8.out.1.2.2.2.1).cell 1 rfl, (F8.out.1.2.2.2.1).cell 2 rfl, (F8.out.1.2.2.2.1).cell 3 rfl⟩, ⟨(G8.out).cell 0 rfl, (G8.out).cell 1 rfl, (G8.out).cell 2 rfl, (G8.out).cell 3 rfl, (G8.out).cell 4 rfl, (G8.out).cell 5 rfl⟩⟩) (fun hHeld => ?_)
      clear hK K
      try simp only [Act.put, List.setIfInBounds_toArray, List.set_cons_zero, List.set_cons_succ]
      refine wpAnyH_take (i := 30) (oi := { dst := Option.some 118, op := Go.Op.pick (Go.Operand.tmp 112) (Go.Operand.tmp 117) (Go.Operand.const (Go.Value.bool Bool.false)), type := 4, pos := "laws.go:513", after := #[{ on := 24, ground := Go.Ground.data }, { on := 29, ground := Go.Ground.data }], guard := Option.none }) (v := ?_) rfl (by kernel_rfl) (by kernel_rfl) (by kernel_rfl) (fun _ _ _ h => h) (Or.inl ⟨by rfl, ?_⟩) hHeld ?_
      rotate_left
      · intro w hSw
        try dsimp only at hSw
        go_simp
        try (with_reducible rfl)
      simp only [Act.put, List.setIfInBounds_toArray, List.set_cons_zero, List.set_cons_succ]
      refine wpAnyH_take (i := 31) (oi := { dst := Option.some 119, op := Go.Op.move (Go.Operand.tmp 118), type := 4, pos := "laws.go:513", after := #[{ on := 30, ground := Go.Ground.data }, { on := 29, ground := Go.Ground.chain }], guard := Option.none }) (v := ?_) rfl (by kernel_rfl) (by kernel_rfl) (by kernel_rfl) (fun _ _ _ h => h) (Or.inl ⟨by rfl, ?_⟩) hHeld ?_
      rotate_left
      · intro w hSw
        try dsimp only at hSw
        go_simp
        try (with_reducible rfl)
      simp only [Act.put, List.setIfInBounds_toArray, List.set_cons_zero, List.set_cons_succ]
      refine wpAnyH_take (i := 32) (oi := { dst := Option.some 120, op := Go.Op.move (Go.Operand.tmp 14), type := 3, pos := "laws.go:513", after := #[{ on := 31, ground := Go.Ground.guard }], guard := Option.some (31, Bool.true) }) (v := ?_) rfl (by kernel_rfl) (by kernel_rfl) (by kernel_rfl) (fun _ _ _ h => h) (Or.inl ⟨by rfl, ?_⟩) hHeld ?_
      rotate_left
      · intro w hSw
        try dsimp only at hSw
        go_simp
        try (with_reducible rfl)
      simp only [Act.put, List.setIfInBounds_toArray, List.set_cons_zero, List.set_cons_succ]
      refine wpAnyH_take (i := 33) (oi := { dst := Option.some 121, op := Go.Op.binOp Go.BinOp.eql 3 (Go.Operand.tmp 120) (Go.Operand.const (Go.Value.int Go.IntKind.i64 4)) 3, type := 4, pos := "laws.go:513", after := #[{ on := 32, ground := Go.Ground.data }, { on := 31, ground := Go.Ground.guard }], guard := Option.some (31, Bool.true) }) (v := ?_) rfl (by kernel_rfl) (by kernel_rfl) (by kernel_rfl) (fun _ _ _ h => h) (Or.inl ⟨by rfl, ?_⟩) hHeld ?_
      rotate_left
      · intro w hSw
        try dsimp only at hSw
        go_simp
        try (with_reducible rfl)
      simp only [Act.put, List.setIfInBounds_toArray, List.set_cons_zero, List.set_cons_succ]
      refine wpAnyH_take (i := 34) (oi := { dst := Option.some 122, op := Go.Op.pick (Go.Operand.tmp 119) (Go.Operand.tmp 121) (Go.Operand.const (Go.Value.bool Bool.false)), type := 4, pos := "laws.go:513", after := #[{ on := 31, ground := Go.Ground.data }, { on := 33, ground := Go.Ground.data }], guard := Option.none }) (v := ?_) rfl (by kernel_rfl) (by kernel_rfl) (by kernel_rfl) (fun _ _ _ h => h) (Or.inl ⟨by rfl, ?_⟩) hHeld ?_
      rotate_left
      · intro w hSw
        try dsimp only at hSw
        go_simp
        try (with_reducible rfl)
      simp only [Act.put, List.setIfInBounds_toArray, List.set_cons_zero, List.set_cons_succ]
      refine wpAnyH_take (i := 35) (oi := { dst := Option.some 123, op := Go.Op.move (Go.Operand.tmp 122), type := 4, pos := "laws.go:513", after := #[{ on := 34, ground := Go.Ground.data }, { on := 31, ground := Go.Ground.chain }], guard := Option.none }) (v := ?_) rfl (by kernel_rfl) (by kernel_rfl) (by kernel_rfl) (fun _ _ _ h => h) (Or.inl ⟨by rfl, ?_⟩) hHeld ?_
      rotate_left
      · intro w hSw
        try dsimp only at hSw
        go_simp
        try (with_reducible rfl)
      simp only [Act.put, List.setIfInBounds_toArray, List.set_cons_zero, List.set_cons_succ]
      refine wpAnyH_take (i := 36) (oi := { dst := Option.some 124, op := Go.Op.move (Go.Operand.tmp 17), type := 3, pos := "laws.go:513", after := #[{ on := 35, ground := Go.Ground.guard }], guard := Option.some (35, Bool.true) }) (v := ?_) rfl (by kernel_rfl) (by kernel_rfl) (by kernel_rfl) (fun _ _ _ h => h) (Or.inl ⟨by rfl, ?_⟩) hHeld ?_
      rotate_left
      · intro w hSw
        try dsimp only at hSw
        go_simp
        try (with_reducible rfl)
      simp only [Act.put, List.setIfInBounds_toArray, List.set_cons_zero, List.set_cons_succ]
      refine wpAnyH_take (i := 37) (oi := { dst := Option.some 125, op := Go.Op.binOp Go.BinOp.eql 3 (Go.Operand.tmp 124) (Go.Operand.const (Go.Value.int Go.IntKind.i64 9)) 3, type := 4, pos := "laws.go:513", after := #[{ on := 36, ground := Go.Ground.data }, { on := 35, ground := Go.Ground.guard }], guard := Option.some (35, Bool.true) }) (v := ?_) rfl (by kernel_rfl) (by kernel_rfl) (by kernel_rfl) (fun _ _ _ h => h) (Or.inl ⟨by rfl, ?_⟩) hHeld ?_
      rotate_left
      · intro w hSw
        try dsimp only at hSw
        go_simp
        try (with_reducible rfl)
      simp only [Act.put, List.setIfInBounds_toArray, List.set_cons_zero, List.set_cons_succ]
      refine wpAnyH_take (i := 38) (oi := { dst := Option.some 126, op := Go.Op.move (Go.Operand.tmp 125), type := 4, pos := "laws.go:513", after := #[{ on := 37, ground := Go.Ground.data }, { on := 35, ground := Go.Ground.chain }, { on := 35, ground := Go.Ground.guard }], guard := Option.some (35, Bool.true) }) (v := ?_) rfl (by kernel_rfl) (by kernel_rfl) (by kernel_rfl) (fun _ _ _ h => h) (Or.inl ⟨by rfl, ?_⟩) hHeld ?_
      rotate_left
      · intro w hSw
        try dsimp only at hSw
        go_simp
        try (with_reducible rfl)
      simp only [Act.put, List.setIfInBounds_toArray, List.set_cons_zero, List.set_cons_succ]
      refine wpAnyH_take (i := 39) (oi := { dst := Option.some 127, op := Go.Op.load 27 (Go.Operand.tmp 15), type := 27, pos := "laws.go:513", after := #[{ on := 38, ground := Go.Ground.guard }], guard := Option.some (38, Bool.false) }) (v := ?_) rfl (by kernel_rfl) (by kernel_rfl) (by kernel_rfl) (fun _ _ _ h => h) (Or.inl ⟨by rfl, ?_⟩) hHeld ?_
      rotate_left
      · intro w hSw
        try dsimp only at hSw
        go_simp
        try (with_reducible rfl)
      simp only [Act.put, List.setIfInBounds_toArray, List.set_cons_zero, List.set_cons_succ]
      refine wpAnyH_take (i := 41) (oi := { dst := Option.some 129, op := Go.Op.load 27 (Go.Operand.tmp 5), type := 27, pos := "laws.go:513", after := #[{ on := 38, ground := Go.Ground.guard }], guard := Option.some (38, Bool.false) }) (v := ?_) rfl (by kernel_rfl) (by kernel_rfl) (by kernel_rfl) (fun _ _ _ h => h) (Or.inl ⟨by rfl, ?_⟩) hHeld ?_
      rotate_left
      · intro w hSw
        try dsimp only at hSw
        go_simp
        try (with_reducible rfl)
      simp only [Act.put, List.setIfInBounds_toArray, List.set_cons_zero, List.set_cons_succ]
      refine wpAnyH_ready (rs := [40]) (by kernel_rfl) (by decide) ?_
      refine AllReadyH.cons (o := { dst := Option.some 128, op := Go.Op.call { callee := Go.Callee.value (Go.Operand.func 11), args := #[Go.Operand.tmp 127], argTypes := #[27] }, type := 9, pos := "laws.go:513", after := #[{ on := 39, ground := Go.Ground.data }, { on := 38, ground := Go.Ground.chain }, { on := 38, ground := Go.Ground.guard }], guard := Option.some (38, Bool.false) }) rfl (fun K hK => ?_) AllReadyH.nil
      go_simp
      go_at_call 11
      refine (kHg _).mono ?_
      rintro e v9 ⟨rfl, bw9⟩
      have F9 : Hid (FvS w1 v9 ⟨tp, ts⟩ ⟨yh, yt, ya, yv, yn, yd⟩ l u cu ⟨xh, xt, xa, xv, xn, xd⟩ nx un ⟨ch, cr, ci, cl⟩ uc cc) := F8.out.step bw9
      have K9 : Hid (Blk v9 b9 [.int .i64 xh, .int .i64 xt, .string xa, .string xv, .string xn, .string xd, .slice u1 nx.length c1] 30) := K8.out.below bw9 K8.out.lt
      have G9 : Hid (Blk v9 (b13 + 1) [.int .i64 xh, .int .i64 xt, .string xa, .string xv, .string xn, .string ⟨#[122, 122]⟩] 27) := G8.out.below bw9 G8.out.lt
      clear bw9
      refine hK.out _ _ (⟨⟨(K9.out).cell 0 rfl, (K9.out).cell 1 rfl, (K9.out).cell 2 rfl, (K9.out).cell 3 rfl, (K9.out).cell 4 rfl, (K9.out).cell 5 rfl, (K9.out).cell 6 rfl⟩, ⟨(F9.out.1.2.1).cell 0 rfl, (F9.out.1.2.1).cell 1 rfl, (F9.out.1.2.1).cell 2 rfl, (F9.out.1.2.1).cell 3 rfl, (F9.out.1.2.1).cell 4 rfl, (F9.out.1.2.1).cell 5 rfl, (F9.out.1.2.1).cell 6 rfl⟩, ⟨(F9.out.1.2.2.1).cell 0 rfl, (F9.out.1.2.2.1).cell 1 rfl, (F9.out.1.2.2.1).cell 2 rfl, (F9.out.1.2.2.1).cell 3 rfl, (F9.out.1.2.2.1).cell 4 rfl, (F9.out.1.2.2.1).cell 5 rfl⟩, ⟨(F9.out.1.2.2.2.1).cell 0 rfl, (F9.out.1.2.2.2.1).cell 1 rfl, (F9.out.1.2.2.2.1).cell 2 rfl, (F9.out.1.2.2.2.1).cell 3 rfl⟩, ⟨(G9.out).cell 0 rfl, (G9.out).cell 1 rfl, (G9.out).cell 2 rfl, (G9.out).cell 3 rfl, (G9.out).cell 4 rfl, (G9.out).cell 5 rfl⟩⟩) (fun hHeld => ?_)
      clear hK K
      try simp only [Act.put, List.setIfInBounds_toArray, List.set_cons_zero, List.set_cons_succ]
      refine wpAnyH_ready (rs := [42]) (by kernel_rfl) (by decide) ?_
      refine AllReadyH.cons (o := { dst := Option.some 130, op := Go.Op.call { callee := Go.Callee.value (Go.Operand.func 11), args := #[Go.Operand.tmp 129], argTypes := #[27] }, type := 9, pos := "laws.go:513", after := #[{ on := 41, ground := Go.Ground.data }, { on := 40, ground := Go.Ground.chain }, { on := 38, ground := Go.Ground.guard }], guard := Option.some (38, Bool.false) }) rfl (fun K hK => ?_) AllReadyH.nil
      go_simp
      go_at_call 11
      refine (kHx _).mono ?_
      rintro e v10 ⟨rfl, bw10⟩
      have F10 : Hid (FvS w1 v10 ⟨tp, ts⟩ ⟨yh, yt, ya, yv, yn, yd⟩ l u cu ⟨xh, xt, xa, xv, xn, xd⟩ nx un ⟨ch, cr, ci, cl⟩ uc cc) := F9.out.step bw10
      have K10 : Hid (Blk v10 b9 [.int .i64 xh, .int .i64 xt, .string xa, .string xv, .string xn, .string xd, .slice u1 nx.length c1] 30) := K9.out.below bw10 K9.out.lt
      have G10 : Hid (Blk v10 (b13 + 1) [.int .i64 xh, .int .i64 xt, .string xa, .string xv, .string xn, .string ⟨#[122, 122]⟩] 27) := G9.out.below bw10 G9.out.lt
      clear bw10
      refine hK.out _ _ (⟨⟨(K10.out).cell 0 rfl, (K10.out).cell 1 rfl, (K10.out).cell 2 rfl, (K10.out).cell 3 rfl, (K10.out).cell 4 rfl, (K10.out).cell 5 rfl, (K10.out).cell 6 rfl⟩, ⟨(F10.out.1.2.1).cell 0 rfl, (F10.out.1.2.1).cell 1 rfl, (F10.out.1.2.1).cell 2 rfl, (F10.out.1.2.1).cell 3 rfl, (F10.out.1.2.1).cell 4 rfl, (F10.out.1.2.1).cell 5 rfl, (F10.out.1.2.1).cell 6 rfl⟩, ⟨(F10.out.1.2.2.1).cell 0 rfl, (F10.out.1.2.2.1).cell 1 rfl, (F10.out.1.2.2.1).cell 2 rfl, (F10.out.1.2.2.1).cell 3 rfl, (F10.out.1.2.2.1).cell 4 rfl, (F10.out.1.2.2.1).cell 5 rfl⟩, ⟨(F10.out.1.2.2.2.1).cell 0 rfl, (F10.out.1.2.2.2.1).cell 1 rfl, (F10.out.1.2.2.2.1).cell 2 rfl, (F10.out.1.2.2.2.1).cell 3 rfl⟩, ⟨(G10.out).cell 0 rfl, (G10.out).cell 1 rfl, (G10.out).cell 2 rfl, (G10.out).cell 3 rfl, (G10.out).cell 4 rfl, (G10.out).cell 5 rfl⟩⟩) (fun hHeld => ?_)
      clear hK K
      try simp only [Act.put, List.setIfInBounds_toArray, List.set_cons_zero, List.set_cons_succ]
      refine wpAnyH_take (i := 43) (oi := { dst := Option.some 131, op := Go.Op.binOp Go.BinOp.eql 9 (Go.Operand.tmp 128) (Go.Operand.tmp 130) 9, type := 4, pos := "laws.go:513", after := #[{ on := 40, ground := Go.Ground.data }, { on := 42, ground := Go.Ground.data }, { on := 38, ground := Go.Ground.guard }], guard := Option.some (38, Bool.false) }) (v := ?_) rfl (by kernel_rfl) (by kernel_rfl) (by kernel_rfl) (fun _ _ _ h => h) (Or.inl ⟨by rfl, ?_⟩) hHeld ?_
      rotate_left
      · intro w hSw
        try dsimp only at hSw
        go_simp
        try (with_reducible rfl)
      simp only [Act.put, List.setIfInBounds_toArray, List.set_cons_zero, List.set_cons_succ]
      refine wpAnyH_take (i := 44) (oi := { dst := Option.some 132, op := Go.Op.pick (Go.Operand.tmp 126) (Go.Operand.const (Go.Value.bool Bool.true)) (Go.Operand.tmp 131), type := 4, pos := "laws.go:513", after := #[{ on := 38, ground := Go.Ground.data }, { on := 43, ground := Go.Ground.data }, { on := 35, ground := Go.Ground.guard }], guard := Option.some (35, Bool.true) }) (v := ?_) rfl (by kernel_rfl) (by kernel_rfl) (by kernel_rfl) (fun _ _ _ h => h) (Or.inl ⟨by rfl, ?_⟩) hHeld ?_
      rotate_left
      · intro w hSw
        try dsimp only at hSw
        go_simp
        try (with_reducible rfl)
      simp only [Act.put, List.setIfInBounds_toArray, List.set_cons_zero, List.set_cons_succ]
      refine wpAnyH_take (i := 45) (oi := { dst := Option.some 133, op := Go.Op.pick (Go.Operand.tmp 123) (Go.Operand.tmp 132) (Go.Operand.const (Go.Value.bool Bool.false)), type := 4, pos := "laws.go:513", after := #[{ on := 35, ground := Go.Ground.data }, { on := 44, ground := Go.Ground.data }], guard := Option.none }) (v := ?_) rfl (by kernel_rfl) (by kernel_rfl) (by kernel_rfl) (fun _ _ _ h => h) (Or.inl ⟨by rfl, ?_⟩) hHeld ?_
      rotate_left
      · intro w hSw
        try dsimp only at hSw
        go_simp
        try (with_reducible rfl)
      simp only [Act.put, List.setIfInBounds_toArray, List.set_cons_zero, List.set_cons_succ]
      refine wpAnyH_take (i := 46) (oi := { dst := Option.some 2, op := Go.Op.assign (Go.Operand.tmp 133), type := 4, pos := "laws.go:513", after := #[{ on := 45, ground := Go.Ground.data }, { on := 42, ground := Go.Ground.chain }, { on := 0, ground := Go.Ground.phase }, { on := 1, ground := Go.Ground.phase }, { on := 2, ground := Go.Ground.phase }, { on := 3, ground := Go.Ground.phase }, { on := 4, ground := Go.Ground.phase }, { on := 5, ground := Go.Ground.phase }, { on := 6, ground := Go.Ground.phase }, { on := 7, ground := Go.Ground.phase }, { on := 8, ground := Go.Ground.phase }, { on := 9, ground := Go.Ground.phase }, { on := 10, ground := Go.Ground.phase }, { on := 11, ground := Go.Ground.phase }, { on := 12, ground := Go.Ground.phase }, { on := 13, ground := Go.Ground.phase }, { on := 14, ground := Go.Ground.phase }, { on := 15, ground := Go.Ground.phase }, { on := 16, ground := Go.Ground.phase }, { on := 17, ground := Go.Ground.phase }, { on := 18, ground := Go.Ground.phase }, { on := 19, ground := Go.Ground.phase }, { on := 20, ground := Go.Ground.phase }, { on := 21, ground := Go.Ground.phase }, { on := 22, ground := Go.Ground.phase }, { on := 23, ground := Go.Ground.phase }, { on := 24, ground := Go.Ground.phase }, { on := 25, ground := Go.Ground.phase }, { on := 26, ground := Go.Ground.phase }, { on := 27, ground := Go.Ground.phase }, { on := 28, ground := Go.Ground.phase }, { on := 29, ground := Go.Ground.phase }, { on := 30, ground := Go.Ground.phase }, { on := 31, ground := Go.Ground.phase }, { on := 32, ground := Go.Ground.phase }, { on := 33, ground := Go.Ground.phase }, { on := 34, ground := Go.Ground.phase }, { on := 35, ground := Go.Ground.phase }, { on := 36, ground := Go.Ground.phase }, { on := 37, ground := Go.Ground.phase }, { on := 38, ground := Go.Ground.phase }, { on := 39, ground := Go.Ground.phase }, { on := 40, ground := Go.Ground.phase }, { on := 41, ground := Go.Ground.phase }, { on := 42, ground := Go.Ground.phase }, { on := 43, ground := Go.Ground.phase }, { on := 44, ground := Go.Ground.phase }, { on := 45, ground := Go.Ground.phase }], guard := Option.none }) (v := ?_) rfl (by kernel_rfl) (by kernel_rfl) (by kernel_rfl) (fun _ _ _ h => h) (Or.inl ⟨by rfl, ?_⟩) hHeld ?_
      rotate_left
      · intro w hSw
        try dsimp only at hSw
        go_simp
        try (with_reducible rfl)
      simp only [Act.put, List.setIfInBounds_toArray, List.set_cons_zero, List.set_cons_succ]
      refine wpAnyH_done (by kernel_rfl) ?_ _
      go_wp2
      go_ret
      exact ⟨rfl, kb _ F10.out⟩
  · obtain ⟨N, hN⟩ : ∃ N, verN ⟨tp, ts⟩ ⟨⟨yh, yt, ya, yv, yn, yd⟩, l⟩ ⟨xh, xt, xa, xv, xn, xd⟩ nx ⟨ch, cr, ci, cl⟩ z = N := ⟨_, rfl⟩
    rw [hN] at kV4 kV5 hk
    have en : nextA ⟨⟨yh, yt, ya, yv, yn, yd⟩, l⟩ ⟨xh, xt, xa, xv, xn, xd⟩ nx N = ⟨⟨yh, yt, ya, yv, yn, yd⟩, l⟩ := if_neg hk
    rw [en] at kV4 kV5
    clear en hN
    unfold trV aV hV cV at *
    simp only at kV4 kV5
    have hneg := guardH
    have hrun := fun W => run_eqH yh yt ya yv yn yd W
    obtain ⟨⟨at0, at1⟩, ⟨ay0, ay1, ay2, ay3, ay4, ay5, ay6⟩, ⟨ax0, ax1, ax2, ax3, ax4, ax5⟩, ⟨ac0, ac1, ac2, ac3⟩⟩ := hflat _ HF2.out
    go_wp2_with fail
    try rw [hw2]
    refine (kV4 _ HF2.out).mono ?_
    rintro e w3 ⟨u1, c1, rfl, HO, bb⟩
    clear at0 at1 ay0 ay1 ay2 ay3 ay4 ay5 ay6 ax0 ax1 ax2 ax3 ax4 ax5 ac0 ac1 ac2 ac3 hw2
    have HF3 : Hid (FvS w1 w3 ⟨tp, ts⟩ ⟨yh, yt, ya, yv, yn, yd⟩ l u cu ⟨xh, xt, xa, xv, xn, xd⟩ nx un ⟨ch, cr, ci, cl⟩ uc cc) := HF2.out.step bb
    have hV1 : Hid (VO w3 u1 l) := HO.out.slc.1
    have hu1 : Hid (u1 = none → c1 = 0) := HO.out.slc.2
    clear HF2 HO bb kV4
    obtain ⟨b9, hb9⟩ : ∃ b, w3.heap.size = b := ⟨_, rfl⟩
    obtain ⟨w4, hw4⟩ : ∃ W, w3.alloc (Obj.cells #[.int .i64 yh, .int .i64 yt, .string ya, .string yv, .string yn, .string yd, .slice u1 l.length c1] 30) = W := ⟨_, rfl⟩
    have bb : Below w3.heap.size w3 w4 := by rw [← hw4]; exact below_one _ _
    have K9 : Hid (Blk w4 b9 [.int .i64 yh, .int .i64 yt, .string ya, .string yv, .string yn, .string yd, .slice u1 l.length c1] 30) := by rw [← hw4, ← hb9]; exact blk_new w3 [.int .i64 yh, .int .i64 yt, .string ya, .string yv, .string yn, .string yd, .slice u1 l.length c1] _
    have HF4 : Hid (FvS w1 w4 ⟨tp, ts⟩ ⟨yh, yt, ya, yv, yn, yd⟩ l u cu ⟨xh, xt, xa, xv, xn, xd⟩ nx un ⟨ch, cr, ci, cl⟩ uc cc) := HF3.out.step bb
    have hV4 : Hid (VO w4 u1 l) := hV1.out.below bb
    clear bb
    obtain ⟨⟨at0, at1⟩, ⟨ay0, ay1, ay2, ay3, ay4, ay5, ay6⟩, ⟨ax0, ax1, ax2, ax3, ax4, ax5⟩, ⟨ac0, ac1, ac2, ac3⟩⟩ := hflat _ HF4.out
    go_wp2_with fail
    try rw [hw4]
    try rw [hb9]
    refine (kV5 _ HF4.out).mono ?_
    rintro e w5 ⟨u2, c2, rfl, HO, bb⟩
    clear at0 at1 ay0 ay1 ay2 ay3 ay4 ay5 ay6 ax0 ax1 ax2 ax3 ax4 ax5 ac0 ac1 ac2 ac3 hw4 hb9 HF3 hV1 HO kV5
    have HF5 : Hid (FvS w1 w5 ⟨tp, ts⟩ ⟨yh, yt, ya, yv, yn, yd⟩ l u cu ⟨xh, xt, xa, xv, xn, xd⟩ nx un ⟨ch, cr, ci, cl⟩ uc cc) := HF4.out.step bb
    have K9_5 : Hid (Blk w5 b9 [.int .i64 yh, .int .i64 yt, .string ya, .string yv, .string yn, .string yd, .slice u1 l.length c1] 30) := K9.out.below bb K9.out.lt
    have hV5 : Hid (VO w5 u1 l) := hV4.out.below bb
    clear HF4 K9 hV4 bb
    obtain ⟨w6, hw6⟩ : ∃ W, w5.alloc (Obj.cells #[.int .i64 yh, .int .i64 yt, .string ya, .string yv, .string yn, .string yd, .slice u2 l.length c2] 30) = W := ⟨_, rfl⟩
    have bb : Below w5.heap.size w5 w6 := by rw [← hw6]; exact below_one _ _
    have HF6 : Hid (FvS w1 w6 ⟨tp, ts⟩ ⟨yh, yt, ya, yv, yn, yd⟩ l u cu ⟨xh, xt, xa, xv, xn, xd⟩ nx un ⟨ch, cr, ci, cl⟩ uc cc) := HF5.out.step bb
    have K9_6 : Hid (Blk w6 b9 [.int .i64 yh, .int .i64 yt, .string ya, .string yv, .string yn, .string yd, .slice u1 l.length c1] 30) := K9_5.out.below bb K9_5.out.lt
    have hV6 : Hid (VO w6 u1 l) := hV5.out.below bb
    clear HF5 K9_5 hV5 bb
    obtain ⟨⟨at0, at1⟩, ⟨ay0, ay1, ay2, ay3, ay4, ay5, ay6⟩, ⟨ax0, ax1, ax2, ax3, ax4, ax5⟩, ⟨ac0, ac1, ac2, ac3⟩⟩ := hflat _ HF6.out
    have ak0 := K9_6.out.cell 0 rfl
    have ak1 := K9_6.out.cell 1 rfl
    have ak2 := K9_6.out.cell 2 rfl
    have ak3 := K9_6.out.cell 3 rfl
    have ak4 := K9_6.out.cell 4 rfl
    have ak5 := K9_6.out.cell 5 rfl
    have ak6 := K9_6.out.cell 6 rfl
    go_wp2_with fail
    try rw [hw6]
    refine (same_any u1 u l c1 cu _ hV6.out HF6.out.2.1 (by have := hl8.out; omega)).mono ?_
    rintro e w7 ⟨rfl, bb⟩
    have HF7 : Hid (FvS w1 w7 ⟨tp, ts⟩ ⟨yh, yt, ya, yv, yn, yd⟩ l u cu ⟨xh, xt, xa, xv, xn, xd⟩ nx un ⟨ch, cr, ci, cl⟩ uc cc) := HF6.out.step bb
    go_wp2
    go_ret
    exact ⟨rfl, kb _ HF7.out⟩
end Go.Proofs.YtajfmjgaaapjeaaGreatDoor
namespace Go.Proofs.YtajfmjgaaapjeaaGreatDoor
open Go.ChangeShapes Go.WideShapes Go.ChangeAt Go.RowKit
open Num
set_option linter.unusedVariables false
/-- The bytes of a slice that came in, as a code. -/
theorem bytes_of {W : World} {x : Addr} {zs : List Int} {len : Nat} (hl : len ≤ zs.length) (hcell : ∀ i, i < zs.length → W.cell? (x.add i) = some (.int .u8 (zs.getD i 0))) (hwz : ∀ n ∈ zs, (Lit.int .u8 n).wf = true) :
    ∃ L : List UInt8, L.length = len ∧ CodeAt W W.heap.size (some x) L := by
  refine ⟨(zs.take len).map (fun z => UInt8.ofNat z.toNat), by simp; omega, ?_⟩
  intro j hj
  have hj' : j < len := by simp at hj; omega
  have hc := hcell j (by omega)
  obtain ⟨b, off, spot⟩ := x
  have hspot : spot = none := by
    have := World.cell?_spot (hcell 0 (by omega))
    simpa [Addr.add] using this
  subst hspot
  have hadd : (⟨b, off, none⟩ : Addr).add j = ⟨b, off + j, none⟩ := by
    unfold Addr.add
    by_cases h : j = 0 <;> simp [h]
  rw [hadd] at hc
  have hlt := World.block_lt_of_cell? W _ hc
  refine ⟨b, off, rfl, ?_, ?_⟩
  · intro e
    have h2 : b < W.heap.size := hlt
    omega
  · rw [hc]
    have hg : zs.getD j 0 = zs[j]'(by omega) := by rw [List.getD_eq_getElem?_getD, List.getElem?_eq_getElem (by omega)]; rfl
    have hb := bounds_u8 (hwz (zs[j]'(by omega)) (List.getElem_mem ..))
    rw [hg]
    simp only [List.getElem_map, List.getElem_take]
    rw [toNat_of _ (by omega) (by omega)]
    congr 2
    omega
theorem open_code {H : Type} {enc : TypeId × Value → H} {W : World} {a0 : Option Addr} {len0 cap0 : Nat} {d0 : DataW H} {p0 : List MemPlace}
    (h0 : DataW.Trod enc Tryz.prog W 0 (fun _ => true) true 22 (.slice a0 len0 cap0) d0 p0) : ∃ L : List UInt8, L.length = len0 ∧ L.length ≤ 9223372036854775807 ∧ CodeAt W W.heap.size a0 L := by
  obtain ⟨fuel, hf⟩ := h0
  rcases open_ints Tryz.underlying22 Tryz.underlying5 (by kernel_rfl) hf with ⟨hcs, _⟩ | ⟨x, l, c, zs, hcs, _, hl, hm, hz, _, hcell, hwz⟩
  · simp [Value.cells] at hcs
    obtain ⟨rfl, rfl, rfl⟩ := hcs
    exact ⟨[], rfl, by simp, fun j hj => absurd hj (by simp)⟩
  · simp [Value.cells] at hcs
    obtain ⟨rfl, rfl, rfl⟩ := hcs
    have hz' : zs.length = cap0 := by simpa using hz
    obtain ⟨L, h1, h2⟩ := bytes_of (len := len0) (by omega) hcell hwz
    unfold maxLen at hm
    exact ⟨L, h1, by omega, h2⟩
theorem fn_big (a : Option Addr) (len cap : Nat) (w : World) (hm : len ≤ 9223372036854775807) (hlen : 1048576 < len) :
    Calls Tryz.prog 3 #[.slice a len cap] w fun e w' => e = .returned (.bool true) ∧ Below w.heap.size w w' := by
  have hbig : decide ((1048576 : Int) < (len : Int)) = true := by simp; omega
  go_enter Tryz.func3, Tryz.ntmps3
  go_wp2_with fail
  refine (big_any a len cap _ hm).mono ?_
  rintro e w0 ⟨rfl, rfl⟩
  rw [hbig]
  go_wp2
  go_ret
  exact ⟨rfl, Below.refl _ _⟩
theorem fn_verify_all (a : Option Addr) (L : List UInt8) (cap : Nat) (w : World) (hl : CodeAt w w.heap.size a L) (hT : Tab w) (hm : L.length ≤ 9223372036854775807) :
    Calls Tryz.prog 3 #[.slice a L.length cap] w fun e w' => e = .returned (.bool true) ∧ Below w.heap.size w w' := by
  by_cases h : L.length ≤ 1048576
  · exact fn_verify a L cap w hl hT h
  · exact fn_big a L.length cap w hm (by omega)
end Go.Proofs.YtajfmjgaaapjeaaGreatDoor
