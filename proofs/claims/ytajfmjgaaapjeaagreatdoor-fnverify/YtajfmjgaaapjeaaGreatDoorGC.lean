/- What spec.l11Why answers where all is right, spec.l10Time and spec.Verify; old memory stays. Conditions: what a machine can hold. What spec.Verify answers; old memory stays. Conditions: what a machine can hold. -/
import Derived.Test.YtajfmjgaaapjeaaGreatDoorVi
namespace Go.Proofs.YtajfmjgaaapjeaaGreatDoor
open Go.RowKit
open Num
set_option linter.unusedVariables false
/-- l11Why's variables in their blocks; old memory stands. -/
def Fou (w W : World) (t : Tr) (y : H) (q : Value) (x : H) (c : Ct) (b : Option Addr) (cb : Nat) : Prop := Blk W w.heap.size [.int .i64 t.p, .int .i64 t.s] 25 ∧ Blk W (w.heap.size + 1) (acs y q) 30 ∧ Blk W (w.heap.size + 2) (hcs x).toList 27 ∧ Blk W (w.heap.size + 3) (ccs c b cb) 33 ∧ Below w.heap.size w W
theorem Fou.step {w W W' : World} {t : Tr} {y : H} {q : Value} {x : H} {c : Ct} {b : Option Addr} {cb : Nat} (h : Fou w W t y q x c b cb) (hb : Below W.heap.size W W') : Fou w W' t y q x c b cb :=
  ⟨h.1.below hb h.1.lt, h.2.1.below hb h.2.1.lt, h.2.2.1.below hb h.2.2.1.lt, h.2.2.2.1.below hb h.2.2.2.1.lt, h.2.2.2.2.trans (hb.mono h.2.2.2.2.size)⟩
def fouW (w : World) (t : Tr) (y : H) (q : Value) (x : H) (c : Ct) (b : Option Addr) (cb : Nat) : World := (((w.alloc (.cells (trcs t) 25)).alloc (.cells (acs y q).toArray 30)).alloc (.cells (hcs x) 27)).alloc (.cells (ccs c b cb).toArray 33)
theorem fou_new (w : World) (t : Tr) (y : H) (q : Value) (x : H) (c : Ct) (b : Option Addr) (cb : Nat) : Fou w (fouW w t y q x c b cb) t y q x c b cb := by
  have e1 : (w.alloc (.cells (trcs t) 25)).heap.size = w.heap.size + 1 := by simp
  have e2 : ((w.alloc (.cells (trcs t) 25)).alloc (.cells (acs y q).toArray 30)).heap.size = w.heap.size + 2 := by simp
  have e3 : (((w.alloc (.cells (trcs t) 25)).alloc (.cells (acs y q).toArray 30)).alloc (.cells (hcs x) 27)).heap.size = w.heap.size + 3 := by simp
  unfold fouW
  refine ⟨?_, ?_, ?_, ?_, ?_⟩
  · exact (((blk_new w [.int .i64 t.p, .int .i64 t.s] _).alloc _).alloc _).alloc _
  · have h := ((blk_new (w.alloc (.cells (trcs t) 25)) (acs y q) 30).alloc (.cells (hcs x) 27)).alloc (.cells (ccs c b cb).toArray 33)
    rw [e1] at h; exact h
  · have h := (blk_new ((w.alloc (.cells (trcs t) 25)).alloc (.cells (acs y q).toArray 30)) (hcs x).toList 27).alloc (.cells (ccs c b cb).toArray 33)
    rw [e2] at h; exact h
  · have h := blk_new (((w.alloc (.cells (trcs t) 25)).alloc (.cells (acs y q).toArray 30)).alloc (.cells (hcs x) 27)) (ccs c b cb) 33
    rw [e3] at h; exact h
  · exact (((below_one _ _).alloc (by simp) _).alloc (by simp; omega) _).alloc (by simp; omega) _
set_option maxHeartbeats 6400000 in
set_option maxRecDepth 100000 in
theorem spec_why (t : Tr) (y : H) (l : List V) (p : Option Addr) (cap : Nat) (x : H) (nx : List V) (pn : Option Addr) (capn : Nat) (c : Ct) (b : Option Addr) (cb : Nat) (z : Int) (w : World) (hl : VO w p l) (hn : VO w pn nx) (hs : SO w b c.l) (hlen : l.length ≤ 9223372036854775807) (hlen2 : nx.length ≤ 9223372036854775807) (hlen3 : c.l.length ≤ 9223372036854775807) (hR : rightN t ⟨y, l⟩ x z = true) :
    Calls Tryz.prog 46 #[trV t, aV y (.slice p l.length cap), hV x, .slice pn nx.length capn, cV c b cb, .int .i64 z] w fun e w' => e = .returned (.int .i64 (verN t ⟨y, l⟩ x nx c z)) ∧ Below w.heap.size w w' := by
  have H0 : Hid (Fou w (fouW w t y (.slice p l.length cap) x c b cb) t y (.slice p l.length cap) x c b cb) := fou_new w t y _ x c b cb
  have HL : Hid (VO w p l) := hl
  have HN : Hid (VO w pn nx) := hn
  have HS : Hid (SO w b c.l) := hs
  have kI := fun W => spec_headid y W
  have kO := fun W (h : VO W pn nx) => spec_okV pn nx capn W h hlen2
  have kV := fun W (h : VO W pn nx) => spec_vhash pn nx capn W h hlen2
  have kC := fun W (h : VO W p l) (g : SO W b c.l) => spec_comok l p cap x c b cb W h hlen g hlen3
  obtain ⟨n1, n2, n3, n4, n5, n6, n7⟩ := right_nums hR
  simp only at n3 n4
  have HE1 : verN t ⟨y, l⟩ x nx c z = if y.t + t.p < z then 2 else if z + t.s < x.t then 3 else if x.h = y.h + 1 then (if x.t ≤ y.t then 5 else if x.a = headI y then (if x.v = y.n then (if vOk nx = true ∧ x.n = hashV nx then (if comOk l x c = true then 0 else 9) else 8) else 7) else 6) else 4 := by
    unfold verN timeN
    rw [if_pos hR]
    by_cases g1 : y.t + t.p < z
    · simp [g1]
    · by_cases g2 : z + t.s < x.t
      · simp [g1, g2]
      · simp [g1, g2, placeN]
  generalize verN t ⟨y, l⟩ x nx c z = N at *
  generalize headI y = I at *
  generalize vOk nx = O2 at *
  generalize hashV nx = S at *
  generalize comOk l x c = O at *
  clear hl hn hs hR
  obtain ⟨tp, ts⟩ := t
  obtain ⟨yh, yt, ya, yv, yn, yd⟩ := y
  obtain ⟨h, t, aa, v, n, d⟩ := x
  obtain ⟨ch, cr, ci, cl⟩ := c
  unfold trV aV hV cV at *
  unfold fouW trcs acs hcs ccs at H0
  simp only at *
  generalize l.length = m at *
  generalize nx.length = m' at *
  obtain ⟨M, hM⟩ : ∃ M, yt + tp = M := ⟨_, rfl⟩
  have hM0 : 1 ≤ M ∧ M ≤ 1100000 := by omega
  rw [hM] at HE1
  have HM : Hid (yt + tp = M) := hM
  clear hM
  have hflat : ∀ W, Fou w W ⟨tp, ts⟩ ⟨yh, yt, ya, yv, yn, yd⟩ (.slice p m cap) ⟨h, t, aa, v, n, d⟩ ⟨ch, cr, ci, cl⟩ b cb → (W.cell? ⟨w.heap.size, 0, none⟩ = some (.int .i64 tp) ∧ W.cell? ⟨w.heap.size, 1, none⟩ = some (.int .i64 ts)) ∧ (W.cell? ⟨w.heap.size + 1, 0, none⟩ = some (.int .i64 yh) ∧ W.cell? ⟨w.heap.size + 1, 1, none⟩ = some (.int .i64 yt) ∧ W.cell? ⟨w.heap.size + 1, 2, none⟩ = some (.string ya) ∧ W.cell? ⟨w.heap.size + 1, 3, none⟩ = some (.string yv) ∧ W.cell? ⟨w.heap.size + 1, 4, none⟩ = some (.string yn) ∧ W.cell? ⟨w.heap.size + 1, 5, none⟩ = some (.string yd) ∧ W.cell? ⟨w.heap.size + 1, 6, none⟩ = some (.slice p m cap)) ∧ (W.cell? ⟨w.heap.size + 2, 0, none⟩ = some (.int .i64 h) ∧ W.cell? ⟨w.heap.size + 2, 1, none⟩ = some (.int .i64 t) ∧ W.cell? ⟨w.heap.size + 2, 2, none⟩ = some (.string aa) ∧ W.cell? ⟨w.heap.size + 2, 3, none⟩ = some (.string v) ∧ W.cell? ⟨w.heap.size + 2, 4, none⟩ = some (.string n) ∧ W.cell? ⟨w.heap.size + 2, 5, none⟩ = some (.string d)) ∧ (W.cell? ⟨w.heap.size + 3, 0, none⟩ = some (.int .i64 ch) ∧ W.cell? ⟨w.heap.size + 3, 1, none⟩ = some (.int .i64 cr) ∧ W.cell? ⟨w.heap.size + 3, 2, none⟩ = some (.string ci) ∧ W.cell? ⟨w.heap.size + 3, 3, none⟩ = some (.slice b cl.length cb)) := fun W h => ⟨⟨h.1.cell 0 rfl, h.1.cell 1 rfl⟩, ⟨h.2.1.cell 0 rfl, h.2.1.cell 1 rfl, h.2.1.cell 2 rfl, h.2.1.cell 3 rfl, h.2.1.cell 4 rfl, h.2.1.cell 5 rfl, h.2.1.cell 6 rfl⟩, ⟨h.2.2.1.cell 0 rfl, h.2.2.1.cell 1 rfl, h.2.2.1.cell 2 rfl, h.2.2.1.cell 3 rfl, h.2.2.1.cell 4 rfl, h.2.2.1.cell 5 rfl⟩, ⟨h.2.2.2.1.cell 0 rfl, h.2.2.2.1.cell 1 rfl, h.2.2.2.1.cell 2 rfl, h.2.2.2.1.cell 3 rfl⟩⟩
  by_cases g1 : M < z
  · rw [if_pos g1] at HE1
    rw [HE1]
    clear HE1
    obtain ⟨w0, hw0⟩ : ∃ W, (((w.alloc (Obj.cells #[Value.int .i64 tp, Value.int .i64 ts] 25)).alloc (Obj.cells #[Value.int .i64 yh, Value.int .i64 yt, Value.string ya, Value.string yv, Value.string yn, Value.string yd, Value.slice p m cap] 30)).alloc (Obj.cells #[Value.int .i64 h, Value.int .i64 t, Value.string aa, Value.string v, Value.string n, Value.string d] 27)).alloc (Obj.cells #[Value.int .i64 ch, Value.int .i64 cr, Value.string ci, Value.slice b cl.length cb] 33) = W := ⟨_, rfl⟩
    have HA0 : Hid (Fou w w0 ⟨tp, ts⟩ ⟨yh, yt, ya, yv, yn, yd⟩ (.slice p m cap) ⟨h, t, aa, v, n, d⟩ ⟨ch, cr, ci, cl⟩ b cb) := by rw [← hw0]; exact H0.out
    clear H0
    obtain ⟨⟨at0, at1⟩, ⟨ay0, ay1, ay2, ay3, ay4, ay5, ay6⟩, ⟨ax0, ax1, ax2, ax3, ax4, ax5⟩, ⟨ac0, ac1, ac2, ac3⟩⟩ := hflat _ HA0.out
    have hMM := HM.out
    go_enter Tryz.func46, Tryz.ntmps46
    go_wp2
    try rw [hw0]
    go_ret
    try rw [hw0]
    exact ⟨rfl, HA0.out.2.2.2.2⟩
  rw [if_neg g1] at HE1
  by_cases g2 : z + ts < t
  · rw [if_pos g2] at HE1
    rw [HE1]
    clear HE1
    obtain ⟨w0, hw0⟩ : ∃ W, (((w.alloc (Obj.cells #[Value.int .i64 tp, Value.int .i64 ts] 25)).alloc (Obj.cells #[Value.int .i64 yh, Value.int .i64 yt, Value.string ya, Value.string yv, Value.string yn, Value.string yd, Value.slice p m cap] 30)).alloc (Obj.cells #[Value.int .i64 h, Value.int .i64 t, Value.string aa, Value.string v, Value.string n, Value.string d] 27)).alloc (Obj.cells #[Value.int .i64 ch, Value.int .i64 cr, Value.string ci, Value.slice b cl.length cb] 33) = W := ⟨_, rfl⟩
    have HA0 : Hid (Fou w w0 ⟨tp, ts⟩ ⟨yh, yt, ya, yv, yn, yd⟩ (.slice p m cap) ⟨h, t, aa, v, n, d⟩ ⟨ch, cr, ci, cl⟩ b cb) := by rw [← hw0]; exact H0.out
    clear H0
    obtain ⟨⟨at0, at1⟩, ⟨ay0, ay1, ay2, ay3, ay4, ay5, ay6⟩, ⟨ax0, ax1, ax2, ax3, ax4, ax5⟩, ⟨ac0, ac1, ac2, ac3⟩⟩ := hflat _ HA0.out
    have hMM := HM.out
    go_enter Tryz.func46, Tryz.ntmps46
    go_wp2
    try rw [hw0]
    go_ret
    try rw [hw0]
    exact ⟨rfl, HA0.out.2.2.2.2⟩
  rw [if_neg g2] at HE1
  by_cases c4 : h = yh + 1
  rotate_left
  · rw [if_neg c4] at HE1
    rw [HE1]
    clear HE1
    obtain ⟨w0, hw0⟩ : ∃ W, (((w.alloc (Obj.cells #[Value.int .i64 tp, Value.int .i64 ts] 25)).alloc (Obj.cells #[Value.int .i64 yh, Value.int .i64 yt, Value.string ya, Value.string yv, Value.string yn, Value.string yd, Value.slice p m cap] 30)).alloc (Obj.cells #[Value.int .i64 h, Value.int .i64 t, Value.string aa, Value.string v, Value.string n, Value.string d] 27)).alloc (Obj.cells #[Value.int .i64 ch, Value.int .i64 cr, Value.string ci, Value.slice b cl.length cb] 33) = W := ⟨_, rfl⟩
    have HA0 : Hid (Fou w w0 ⟨tp, ts⟩ ⟨yh, yt, ya, yv, yn, yd⟩ (.slice p m cap) ⟨h, t, aa, v, n, d⟩ ⟨ch, cr, ci, cl⟩ b cb) := by rw [← hw0]; exact H0.out
    clear H0
    obtain ⟨⟨at0, at1⟩, ⟨ay0, ay1, ay2, ay3, ay4, ay5, ay6⟩, ⟨ax0, ax1, ax2, ax3, ax4, ax5⟩, ⟨ac0, ac1, ac2, ac3⟩⟩ := hflat _ HA0.out
    have hMM := HM.out
    go_enter Tryz.func46, Tryz.ntmps46
    go_wp2
    try rw [hw0]
    go_ret
    try rw [hw0]
    exact ⟨rfl, HA0.out.2.2.2.2⟩
  rw [if_pos c4] at HE1
  subst c4
  by_cases c5 : t ≤ yt
  · rw [if_pos c5] at HE1
    rw [HE1]
    clear HE1
    obtain ⟨w0, hw0⟩ : ∃ W, (((w.alloc (Obj.cells #[Value.int .i64 tp, Value.int .i64 ts] 25)).alloc (Obj.cells #[Value.int .i64 yh, Value.int .i64 yt, Value.string ya, Value.string yv, Value.string yn, Value.string yd, Value.slice p m cap] 30)).alloc (Obj.cells #[Value.int .i64 (yh + 1), Value.int .i64 t, Value.string aa, Value.string v, Value.string n, Value.string d] 27)).alloc (Obj.cells #[Value.int .i64 ch, Value.int .i64 cr, Value.string ci, Value.slice b cl.length cb] 33) = W := ⟨_, rfl⟩
    have HA0 : Hid (Fou w w0 ⟨tp, ts⟩ ⟨yh, yt, ya, yv, yn, yd⟩ (.slice p m cap) ⟨yh + 1, t, aa, v, n, d⟩ ⟨ch, cr, ci, cl⟩ b cb) := by rw [← hw0]; exact H0.out
    clear H0
    obtain ⟨⟨at0, at1⟩, ⟨ay0, ay1, ay2, ay3, ay4, ay5, ay6⟩, ⟨ax0, ax1, ax2, ax3, ax4, ax5⟩, ⟨ac0, ac1, ac2, ac3⟩⟩ := hflat _ HA0.out
    have hMM := HM.out
    go_enter Tryz.func46, Tryz.ntmps46
    go_wp2
    try rw [hw0]
    go_ret
    try rw [hw0]
    exact ⟨rfl, HA0.out.2.2.2.2⟩
  rw [if_neg c5] at HE1
  by_cases c6 : aa = I
  rotate_left
  · rw [if_neg c6] at HE1
    have ec6 : (aa.toList == I.toList) = false := by rw [beq_str]; simp [c6]
    clear c6
    rw [HE1]
    clear HE1
    obtain ⟨w0, hw0⟩ : ∃ W, (((w.alloc (Obj.cells #[Value.int .i64 tp, Value.int .i64 ts] 25)).alloc (Obj.cells #[Value.int .i64 yh, Value.int .i64 yt, Value.string ya, Value.string yv, Value.string yn, Value.string yd, Value.slice p m cap] 30)).alloc (Obj.cells #[Value.int .i64 (yh + 1), Value.int .i64 t, Value.string aa, Value.string v, Value.string n, Value.string d] 27)).alloc (Obj.cells #[Value.int .i64 ch, Value.int .i64 cr, Value.string ci, Value.slice b cl.length cb] 33) = W := ⟨_, rfl⟩
    have HA0 : Hid (Fou w w0 ⟨tp, ts⟩ ⟨yh, yt, ya, yv, yn, yd⟩ (.slice p m cap) ⟨yh + 1, t, aa, v, n, d⟩ ⟨ch, cr, ci, cl⟩ b cb) := by rw [← hw0]; exact H0.out
    clear H0
    obtain ⟨⟨at0, at1⟩, ⟨ay0, ay1, ay2, ay3, ay4, ay5, ay6⟩, ⟨ax0, ax1, ax2, ax3, ax4, ax5⟩, ⟨ac0, ac1, ac2, ac3⟩⟩ := hflat _ HA0.out
    have hMM := HM.out
    go_enter Tryz.func46, Tryz.ntmps46
    go_wp2_with fail
    try rw [hw0]
    have hn := bel_some w0
    have qat0 := fun q : Bel w0 => q.cell at0
    have qat1 := fun q : Bel w0 => q.cell at1
    have qay0 := fun q : Bel w0 => q.cell ay0
    have qay1 := fun q : Bel w0 => q.cell ay1
    have qay2 := fun q : Bel w0 => q.cell ay2
    have qay3 := fun q : Bel w0 => q.cell ay3
    have qay4 := fun q : Bel w0 => q.cell ay4
    have qay5 := fun q : Bel w0 => q.cell ay5
    have qay6 := fun q : Bel w0 => q.cell ay6
    have qax0 := fun q : Bel w0 => q.cell ax0
    have qax1 := fun q : Bel w0 => q.cell ax1
    have qax2 := fun q : Bel w0 => q.cell ax2
    have qax3 := fun q : Bel w0 => q.cell ax3
    have qax4 := fun q : Bel w0 => q.cell ax4
    have qax5 := fun q : Bel w0 => q.cell ax5
    have qac0 := fun q : Bel w0 => q.cell ac0
    have qac1 := fun q : Bel w0 => q.cell ac1
    have qac2 := fun q : Bel w0 => q.cell ac2
    have qac3 := fun q : Bel w0 => q.cell ac3
    have kIq := fun q : Bel w0 => kI q.W
    refine wp_region_below (by kernel_rfl) (by kernel_rfl) ?_
    repeat (go_big_quiet_step ((go_at_call 11; exact bel_of (kIq _))))
    refine wpQuiet_nil ?_
    intro _ hw'
    obtain ⟨pq, hw''⟩ := hw'
    subst hw''
    obtain ⟨w1, hw1⟩ : ∃ W, pq.W = W := ⟨_, rfl⟩
    have HA1 : Hid (Fou w w1 ⟨tp, ts⟩ ⟨yh, yt, ya, yv, yn, yd⟩ (.slice p m cap) ⟨yh + 1, t, aa, v, n, d⟩ ⟨ch, cr, ci, cl⟩ b cb) := by rw [← hw1]; exact HA0.out.step pq.h
    rw [hw1]
    clear qat0 qat1 qay0 qay1 qay2 qay3 qay4 qay5 qay6 qax0 qax1 qax2 qax3 qax4 qax5 qac0 qac1 qac2 qac3 kIq hn
    clear at0 at1 ay0 ay1 ay2 ay3 ay4 ay5 ay6 ax0 ax1 ax2 ax3 ax4 ax5 ac0 ac1 ac2 ac3 HA0 hw0 hw1 pq
    obtain ⟨⟨at0, at1⟩, ⟨ay0, ay1, ay2, ay3, ay4, ay5, ay6⟩, ⟨ax0, ax1, ax2, ax3, ax4, ax5⟩, ⟨ac0, ac1, ac2, ac3⟩⟩ := hflat _ HA1.out
    go_wp2
    go_ret
    exact ⟨rfl, HA1.out.2.2.2.2⟩
  rw [if_pos c6] at HE1
  have ec6 : (aa.toList == I.toList) = true := by rw [beq_str]; simp [c6]
  clear c6
  by_cases c7 : v = yn
  rotate_left
  · rw [if_neg c7] at HE1
    have ec7 : (v.toList == yn.toList) = false := by rw [beq_str]; simp [c7]
    clear c7
    rw [HE1]
    clear HE1
    obtain ⟨w0, hw0⟩ : ∃ W, (((w.alloc (Obj.cells #[Value.int .i64 tp, Value.int .i64 ts] 25)).alloc (Obj.cells #[Value.int .i64 yh, Value.int .i64 yt, Value.string ya, Value.string yv, Value.string yn, Value.string yd, Value.slice p m cap] 30)).alloc (Obj.cells #[Value.int .i64 (yh + 1), Value.int .i64 t, Value.string aa, Value.string v, Value.string n, Value.string d] 27)).alloc (Obj.cells #[Value.int .i64 ch, Value.int .i64 cr, Value.string ci, Value.slice b cl.length cb] 33) = W := ⟨_, rfl⟩
    have HA0 : Hid (Fou w w0 ⟨tp, ts⟩ ⟨yh, yt, ya, yv, yn, yd⟩ (.slice p m cap) ⟨yh + 1, t, aa, v, n, d⟩ ⟨ch, cr, ci, cl⟩ b cb) := by rw [← hw0]; exact H0.out
    clear H0
    obtain ⟨⟨at0, at1⟩, ⟨ay0, ay1, ay2, ay3, ay4, ay5, ay6⟩, ⟨ax0, ax1, ax2, ax3, ax4, ax5⟩, ⟨ac0, ac1, ac2, ac3⟩⟩ := hflat _ HA0.out
    have hMM := HM.out
    go_enter Tryz.func46, Tryz.ntmps46
    go_wp2_with fail
    try rw [hw0]
    have hn := bel_some w0
    have qat0 := fun q : Bel w0 => q.cell at0
    have qat1 := fun q : Bel w0 => q.cell at1
    have qay0 := fun q : Bel w0 => q.cell ay0
    have qay1 := fun q : Bel w0 => q.cell ay1
    have qay2 := fun q : Bel w0 => q.cell ay2
    have qay3 := fun q : Bel w0 => q.cell ay3
    have qay4 := fun q : Bel w0 => q.cell ay4
    have qay5 := fun q : Bel w0 => q.cell ay5
    have qay6 := fun q : Bel w0 => q.cell ay6
    have qax0 := fun q : Bel w0 => q.cell ax0
    have qax1 := fun q : Bel w0 => q.cell ax1
    have qax2 := fun q : Bel w0 => q.cell ax2
    have qax3 := fun q : Bel w0 => q.cell ax3
    have qax4 := fun q : Bel w0 => q.cell ax4
    have qax5 := fun q : Bel w0 => q.cell ax5
    have qac0 := fun q : Bel w0 => q.cell ac0
    have qac1 := fun q : Bel w0 => q.cell ac1
    have qac2 := fun q : Bel w0 => q.cell ac2
    have qac3 := fun q : Bel w0 => q.cell ac3
    have kIq := fun q : Bel w0 => kI q.W
    refine wp_region_below (by kernel_rfl) (by kernel_rfl) ?_
    repeat (go_big_quiet_step ((go_at_call 11; exact bel_of (kIq _))))
    refine wpQuiet_nil ?_
    intro _ hw'
    obtain ⟨pq, hw''⟩ := hw'
    subst hw''
    obtain ⟨w1, hw1⟩ : ∃ W, pq.W = W := ⟨_, rfl⟩
    have HA1 : Hid (Fou w w1 ⟨tp, ts⟩ ⟨yh, yt, ya, yv, yn, yd⟩ (.slice p m cap) ⟨yh + 1, t, aa, v, n, d⟩ ⟨ch, cr, ci, cl⟩ b cb) := by rw [← hw1]; exact HA0.out.step pq.h
    rw [hw1]
    clear qat0 qat1 qay0 qay1 qay2 qay3 qay4 qay5 qay6 qax0 qax1 qax2 qax3 qax4 qax5 qac0 qac1 qac2 qac3 kIq hn
    clear at0 at1 ay0 ay1 ay2 ay3 ay4 ay5 ay6 ax0 ax1 ax2 ax3 ax4 ax5 ac0 ac1 ac2 ac3 HA0 hw0 hw1 pq
    obtain ⟨⟨at0, at1⟩, ⟨ay0, ay1, ay2, ay3, ay4, ay5, ay6⟩, ⟨ax0, ax1, ax2, ax3, ax4, ax5⟩, ⟨ac0, ac1, ac2, ac3⟩⟩ := hflat _ HA1.out
    go_wp2
    go_ret
    exact ⟨rfl, HA1.out.2.2.2.2⟩
  rw [if_pos c7] at HE1
  have ec7 : (v.toList == yn.toList) = true := by rw [beq_str]; simp [c7]
  clear c7
  rcases O2 with _ | _
  · rw [if_neg (by simp)] at HE1
    rw [HE1]
    clear HE1
    obtain ⟨w0, hw0⟩ : ∃ W, (((w.alloc (Obj.cells #[Value.int .i64 tp, Value.int .i64 ts] 25)).alloc (Obj.cells #[Value.int .i64 yh, Value.int .i64 yt, Value.string ya, Value.string yv, Value.string yn, Value.string yd, Value.slice p m cap] 30)).alloc (Obj.cells #[Value.int .i64 (yh + 1), Value.int .i64 t, Value.string aa, Value.string v, Value.string n, Value.string d] 27)).alloc (Obj.cells #[Value.int .i64 ch, Value.int .i64 cr, Value.string ci, Value.slice b cl.length cb] 33) = W := ⟨_, rfl⟩
    have HA0 : Hid (Fou w w0 ⟨tp, ts⟩ ⟨yh, yt, ya, yv, yn, yd⟩ (.slice p m cap) ⟨yh + 1, t, aa, v, n, d⟩ ⟨ch, cr, ci, cl⟩ b cb) := by rw [← hw0]; exact H0.out
    clear H0
    obtain ⟨⟨at0, at1⟩, ⟨ay0, ay1, ay2, ay3, ay4, ay5, ay6⟩, ⟨ax0, ax1, ax2, ax3, ax4, ax5⟩, ⟨ac0, ac1, ac2, ac3⟩⟩ := hflat _ HA0.out
    have hMM := HM.out
    go_enter Tryz.func46, Tryz.ntmps46
    go_wp2_with fail
    try rw [hw0]
    have hn := bel_some w0
    have qat0 := fun q : Bel w0 => q.cell at0
    have qat1 := fun q : Bel w0 => q.cell at1
    have qay0 := fun q : Bel w0 => q.cell ay0
    have qay1 := fun q : Bel w0 => q.cell ay1
    have qay2 := fun q : Bel w0 => q.cell ay2
    have qay3 := fun q : Bel w0 => q.cell ay3
    have qay4 := fun q : Bel w0 => q.cell ay4
    have qay5 := fun q : Bel w0 => q.cell ay5
    have qay6 := fun q : Bel w0 => q.cell ay6
    have qax0 := fun q : Bel w0 => q.cell ax0
    have qax1 := fun q : Bel w0 => q.cell ax1
    have qax2 := fun q : Bel w0 => q.cell ax2
    have qax3 := fun q : Bel w0 => q.cell ax3
    have qax4 := fun q : Bel w0 => q.cell ax4
    have qax5 := fun q : Bel w0 => q.cell ax5
    have qac0 := fun q : Bel w0 => q.cell ac0
    have qac1 := fun q : Bel w0 => q.cell ac1
    have qac2 := fun q : Bel w0 => q.cell ac2
    have qac3 := fun q : Bel w0 => q.cell ac3
    have kIq := fun q : Bel w0 => kI q.W
    refine wp_region_below (by kernel_rfl) (by kernel_rfl) ?_
    repeat (go_big_quiet_step ((go_at_call 11; exact bel_of (kIq _))))
    refine wpQuiet_nil ?_
    intro _ hw'
    obtain ⟨pq, hw''⟩ := hw'
    subst hw''
    obtain ⟨w1, hw1⟩ : ∃ W, pq.W = W := ⟨_, rfl⟩
    have HA1 : Hid (Fou w w1 ⟨tp, ts⟩ ⟨yh, yt, ya, yv, yn, yd⟩ (.slice p m cap) ⟨yh + 1, t, aa, v, n, d⟩ ⟨ch, cr, ci, cl⟩ b cb) := by rw [← hw1]; exact HA0.out.step pq.h
    rw [hw1]
    clear qat0 qat1 qay0 qay1 qay2 qay3 qay4 qay5 qay6 qax0 qax1 qax2 qax3 qax4 qax5 qac0 qac1 qac2 qac3 kIq hn
    clear at0 at1 ay0 ay1 ay2 ay3 ay4 ay5 ay6 ax0 ax1 ax2 ax3 ax4 ax5 ac0 ac1 ac2 ac3 HA0 hw0 hw1 pq
    obtain ⟨⟨at0, at1⟩, ⟨ay0, ay1, ay2, ay3, ay4, ay5, ay6⟩, ⟨ax0, ax1, ax2, ax3, ax4, ax5⟩, ⟨ac0, ac1, ac2, ac3⟩⟩ := hflat _ HA1.out
    go_wp2_with fail
    have hn := bel_some w1
    have qat0 := fun q : Bel w1 => q.cell at0
    have qat1 := fun q : Bel w1 => q.cell at1
    have qay0 := fun q : Bel w1 => q.cell ay0
    have qay1 := fun q : Bel w1 => q.cell ay1
    have qay2 := fun q : Bel w1 => q.cell ay2
    have qay3 := fun q : Bel w1 => q.cell ay3
    have qay4 := fun q : Bel w1 => q.cell ay4
    have qay5 := fun q : Bel w1 => q.cell ay5
    have qay6 := fun q : Bel w1 => q.cell ay6
    have qax0 := fun q : Bel w1 => q.cell ax0
    have qax1 := fun q : Bel w1 => q.cell ax1
    have qax2 := fun q : Bel w1 => q.cell ax2
    have qax3 := fun q : Bel w1 => q.cell ax3
    have qax4 := fun q : Bel w1 => q.cell ax4
    have qax5 := fun q : Bel w1 => q.cell ax5
    have qac0 := fun q : Bel w1 => q.cell ac0
    have qac1 := fun q : Bel w1 => q.cell ac1
    have qac2 := fun q : Bel w1 => q.cell ac2
    have qac3 := fun q : Bel w1 => q.cell ac3
    have kOq := fun q : Bel w1 => kO q.W ((HN.out.below HA1.out.2.2.2.2).below q.h)
    have kVq := fun q : Bel w1 => kV q.W ((HN.out.below HA1.out.2.2.2.2).below q.h)
    refine wp_region_below (by kernel_rfl) (by kernel_rfl) ?_
    repeat (go_big_quiet_step ((first | (go_at_call 47; exact bel_of (kOq _)) | (go_at_call 48; exact bel_of (kVq _)))))
    refine wpQuiet_nil ?_
    intro _ hw'
    obtain ⟨pq, hw''⟩ := hw'
    subst hw''
    obtain ⟨w2, hw2⟩ : ∃ W, pq.W = W := ⟨_, rfl⟩
    have HA2 : Hid (Fou w w2 ⟨tp, ts⟩ ⟨yh, yt, ya, yv, yn, yd⟩ (.slice p m cap) ⟨yh + 1, t, aa, v, n, d⟩ ⟨ch, cr, ci, cl⟩ b cb) := by rw [← hw2]; exact HA1.out.step pq.h
    rw [hw2]
    clear qat0 qat1 qay0 qay1 qay2 qay3 qay4 qay5 qay6 qax0 qax1 qax2 qax3 qax4 qax5 qac0 qac1 qac2 qac3 kOq kVq hn
    clear at0 at1 ay0 ay1 ay2 ay3 ay4 ay5 ay6 ax0 ax1 ax2 ax3 ax4 ax5 ac0 ac1 ac2 ac3 HA1 hw2 pq
    obtain ⟨⟨at0, at1⟩, ⟨ay0, ay1, ay2, ay3, ay4, ay5, ay6⟩, ⟨ax0, ax1, ax2, ax3, ax4, ax5⟩, ⟨ac0, ac1, ac2, ac3⟩⟩ := hflat _ HA2.out
    go_wp2
    go_ret
    exact ⟨rfl, HA2.out.2.2.2.2⟩
  by_cases c8 : n = S
  rotate_left
  · rw [if_neg (fun h => c8 h.2)] at HE1
    have ec8 : (n.toList == S.toList) = false := by rw [beq_str]; simp [c8]
    clear c8
    rw [HE1]
    clear HE1
    obtain ⟨w0, hw0⟩ : ∃ W, (((w.alloc (Obj.cells #[Value.int .i64 tp, Value.int .i64 ts] 25)).alloc (Obj.cells #[Value.int .i64 yh, Value.int .i64 yt, Value.string ya, Value.string yv, Value.string yn, Value.string yd, Value.slice p m cap] 30)).alloc (Obj.cells #[Value.int .i64 (yh + 1), Value.int .i64 t, Value.string aa, Value.string v, Value.string n, Value.string d] 27)).alloc (Obj.cells #[Value.int .i64 ch, Value.int .i64 cr, Value.string ci, Value.slice b cl.length cb] 33) = W := ⟨_, rfl⟩
    have HA0 : Hid (Fou w w0 ⟨tp, ts⟩ ⟨yh, yt, ya, yv, yn, yd⟩ (.slice p m cap) ⟨yh + 1, t, aa, v, n, d⟩ ⟨ch, cr, ci, cl⟩ b cb) := by rw [← hw0]; exact H0.out
    clear H0
    obtain ⟨⟨at0, at1⟩, ⟨ay0, ay1, ay2, ay3, ay4, ay5, ay6⟩, ⟨ax0, ax1, ax2, ax3, ax4, ax5⟩, ⟨ac0, ac1, ac2, ac3⟩⟩ := hflat _ HA0.out
    have hMM := HM.out
    go_enter Tryz.func46, Tryz.ntmps46
    go_wp2_with fail
    try rw [hw0]
    have hn := bel_some w0
    have qat0 := fun q : Bel w0 => q.cell at0
    have qat1 := fun q : Bel w0 => q.cell at1
    have qay0 := fun q : Bel w0 => q.cell ay0
    have qay1 := fun q : Bel w0 => q.cell ay1
    have qay2 := fun q : Bel w0 => q.cell ay2
    have qay3 := fun q : Bel w0 => q.cell ay3
    have qay4 := fun q : Bel w0 => q.cell ay4
    have qay5 := fun q : Bel w0 => q.cell ay5
    have qay6 := fun q : Bel w0 => q.cell ay6
    have qax0 := fun q : Bel w0 => q.cell ax0
    have qax1 := fun q : Bel w0 => q.cell ax1
    have qax2 := fun q : Bel w0 => q.cell ax2
    have qax3 := fun q : Bel w0 => q.cell ax3
    have qax4 := fun q : Bel w0 => q.cell ax4
    have qax5 := fun q : Bel w0 => q.cell ax5
    have qac0 := fun q : Bel w0 => q.cell ac0
    have qac1 := fun q : Bel w0 => q.cell ac1
    have qac2 := fun q : Bel w0 => q.cell ac2
    have qac3 := fun q : Bel w0 => q.cell ac3
    have kIq := fun q : Bel w0 => kI q.W
    refine wp_region_below (by kernel_rfl) (by kernel_rfl) ?_
    repeat (go_big_quiet_step ((go_at_call 11; exact bel_of (kIq _))))
    refine wpQuiet_nil ?_
    intro _ hw'
    obtain ⟨pq, hw''⟩ := hw'
    subst hw''
    obtain ⟨w1, hw1⟩ : ∃ W, pq.W = W := ⟨_, rfl⟩
    have HA1 : Hid (Fou w w1 ⟨tp, ts⟩ ⟨yh, yt, ya, yv, yn, yd⟩ (.slice p m cap) ⟨yh + 1, t, aa, v, n, d⟩ ⟨ch, cr, ci, cl⟩ b cb) := by rw [← hw1]; exact HA0.out.step pq.h
    rw [hw1]
    clear qat0 qat1 qay0 qay1 qay2 qay3 qay4 qay5 qay6 qax0 qax1 qax2 qax3 qax4 qax5 qac0 qac1 qac2 qac3 kIq hn
    clear at0 at1 ay0 ay1 ay2 ay3 ay4 ay5 ay6 ax0 ax1 ax2 ax3 ax4 ax5 ac0 ac1 ac2 ac3 HA0 hw0 hw1 pq
    obtain ⟨⟨at0, at1⟩, ⟨ay0, ay1, ay2, ay3, ay4, ay5, ay6⟩, ⟨ax0, ax1, ax2, ax3, ax4, ax5⟩, ⟨ac0, ac1, ac2, ac3⟩⟩ := hflat _ HA1.out
    go_wp2_with fail
    have hn := bel_some w1
    have qat0 := fun q : Bel w1 => q.cell at0
    have qat1 := fun q : Bel w1 => q.cell at1
    have qay0 := fun q : Bel w1 => q.cell ay0
    have qay1 := fun q : Bel w1 => q.cell ay1
    have qay2 := fun q : Bel w1 => q.cell ay2
    have qay3 := fun q : Bel w1 => q.cell ay3
    have qay4 := fun q : Bel w1 => q.cell ay4
    have qay5 := fun q : Bel w1 => q.cell ay5
    have qay6 := fun q : Bel w1 => q.cell ay6
    have qax0 := fun q : Bel w1 => q.cell ax0
    have qax1 := fun q : Bel w1 => q.cell ax1
    have qax2 := fun q : Bel w1 => q.cell ax2
    have qax3 := fun q : Bel w1 => q.cell ax3
    have qax4 := fun q : Bel w1 => q.cell ax4
    have qax5 := fun q : Bel w1 => q.cell ax5
    have qac0 := fun q : Bel w1 => q.cell ac0
    have qac1 := fun q : Bel w1 => q.cell ac1
    have qac2 := fun q : Bel w1 => q.cell ac2
    have qac3 := fun q : Bel w1 => q.cell ac3
    have kOq := fun q : Bel w1 => kO q.W ((HN.out.below HA1.out.2.2.2.2).below q.h)
    have kVq := fun q : Bel w1 => kV q.W ((HN.out.below HA1.out.2.2.2.2).below q.h)
    refine wp_region_below (by kernel_rfl) (by kernel_rfl) ?_
    repeat (go_big_quiet_step ((first | (go_at_call 47; exact bel_of (kOq _)) | (go_at_call 48; exact bel_of (kVq _)))))
    refine wpQuiet_nil ?_
    intro _ hw'
    obtain ⟨pq, hw''⟩ := hw'
    subst hw''
    obtain ⟨w2, hw2⟩ : ∃ W, pq.W = W := ⟨_, rfl⟩
    have HA2 : Hid (Fou w w2 ⟨tp, ts⟩ ⟨yh, yt, ya, yv, yn, yd⟩ (.slice p m cap) ⟨yh + 1, t, aa, v, n, d⟩ ⟨ch, cr, ci, cl⟩ b cb) := by rw [← hw2]; exact HA1.out.step pq.h
    rw [hw2]
    clear qat0 qat1 qay0 qay1 qay2 qay3 qay4 qay5 qay6 qax0 qax1 qax2 qax3 qax4 qax5 qac0 qac1 qac2 qac3 kOq kVq hn
    clear at0 at1 ay0 ay1 ay2 ay3 ay4 ay5 ay6 ax0 ax1 ax2 ax3 ax4 ax5 ac0 ac1 ac2 ac3 HA1 hw2 pq
    obtain ⟨⟨at0, at1⟩, ⟨ay0, ay1, ay2, ay3, ay4, ay5, ay6⟩, ⟨ax0, ax1, ax2, ax3, ax4, ax5⟩, ⟨ac0, ac1, ac2, ac3⟩⟩ := hflat _ HA2.out
    go_wp2
    go_ret
    exact ⟨rfl, HA2.out.2.2.2.2⟩
  rw [if_pos ⟨rfl, c8⟩] at HE1
  have ec8 : (n.toList == S.toList) = true := by rw [beq_str]; simp [c8]
  clear c8
  rcases O with _ | _
  · rw [if_neg (by simp)] at HE1
    rw [HE1]
    clear HE1
    obtain ⟨w0, hw0⟩ : ∃ W, (((w.alloc (Obj.cells #[Value.int .i64 tp, Value.int .i64 ts] 25)).alloc (Obj.cells #[Value.int .i64 yh, Value.int .i64 yt, Value.string ya, Value.string yv, Value.string yn, Value.string yd, Value.slice p m cap] 30)).alloc (Obj.cells #[Value.int .i64 (yh + 1), Value.int .i64 t, Value.string aa, Value.string v, Value.string n, Value.string d] 27)).alloc (Obj.cells #[Value.int .i64 ch, Value.int .i64 cr, Value.string ci, Value.slice b cl.length cb] 33) = W := ⟨_, rfl⟩
    have HA0 : Hid (Fou w w0 ⟨tp, ts⟩ ⟨yh, yt, ya, yv, yn, yd⟩ (.slice p m cap) ⟨yh + 1, t, aa, v, n, d⟩ ⟨ch, cr, ci, cl⟩ b cb) := by rw [← hw0]; exact H0.out
    clear H0
    obtain ⟨⟨at0, at1⟩, ⟨ay0, ay1, ay2, ay3, ay4, ay5, ay6⟩, ⟨ax0, ax1, ax2, ax3, ax4, ax5⟩, ⟨ac0, ac1, ac2, ac3⟩⟩ := hflat _ HA0.out
    have hMM := HM.out
    go_enter Tryz.func46, Tryz.ntmps46
    go_wp2_with fail
    try rw [hw0]
    have hn := bel_some w0
    have qat0 := fun q : Bel w0 => q.cell at0
    have qat1 := fun q : Bel w0 => q.cell at1
    have qay0 := fun q : Bel w0 => q.cell ay0
    have qay1 := fun q : Bel w0 => q.cell ay1
    have qay2 := fun q : Bel w0 => q.cell ay2
    have qay3 := fun q : Bel w0 => q.cell ay3
    have qay4 := fun q : Bel w0 => q.cell ay4
    have qay5 := fun q : Bel w0 => q.cell ay5
    have qay6 := fun q : Bel w0 => q.cell ay6
    have qax0 := fun q : Bel w0 => q.cell ax0
    have qax1 := fun q : Bel w0 => q.cell ax1
    have qax2 := fun q : Bel w0 => q.cell ax2
    have qax3 := fun q : Bel w0 => q.cell ax3
    have qax4 := fun q : Bel w0 => q.cell ax4
    have qax5 := fun q : Bel w0 => q.cell ax5
    have qac0 := fun q : Bel w0 => q.cell ac0
    have qac1 := fun q : Bel w0 => q.cell ac1
    have qac2 := fun q : Bel w0 => q.cell ac2
    have qac3 := fun q : Bel w0 => q.cell ac3
    have kIq := fun q : Bel w0 => kI q.W
    refine wp_region_below (by kernel_rfl) (by kernel_rfl) ?_
    repeat (go_big_quiet_step ((go_at_call 11; exact bel_of (kIq _))))
    refine wpQuiet_nil ?_
    intro _ hw'
    obtain ⟨pq, hw''⟩ := hw'
    subst hw''
    obtain ⟨w1, hw1⟩ : ∃ W, pq.W = W := ⟨_, rfl⟩
    have HA1 : Hid (Fou w w1 ⟨tp, ts⟩ ⟨yh, yt, ya, yv, yn, yd⟩ (.slice p m cap) ⟨yh + 1, t, aa, v, n, d⟩ ⟨ch, cr, ci, cl⟩ b cb) := by rw [← hw1]; exact HA0.out.step pq.h
    rw [hw1]
    clear qat0 qat1 qay0 qay1 qay2 qay3 qay4 qay5 qay6 qax0 qax1 qax2 qax3 qax4 qax5 qac0 qac1 qac2 qac3 kIq hn
    clear at0 at1 ay0 ay1 ay2 ay3 ay4 ay5 ay6 ax0 ax1 ax2 ax3 ax4 ax5 ac0 ac1 ac2 ac3 HA0 hw0 hw1 pq
    obtain ⟨⟨at0, at1⟩, ⟨ay0, ay1, ay2, ay3, ay4, ay5, ay6⟩, ⟨ax0, ax1, ax2, ax3, ax4, ax5⟩, ⟨ac0, ac1, ac2, ac3⟩⟩ := hflat _ HA1.out
    go_wp2_with fail
    have hn := bel_some w1
    have qat0 := fun q : Bel w1 => q.cell at0
    have qat1 := fun q : Bel w1 => q.cell at1
    have qay0 := fun q : Bel w1 => q.cell ay0
    have qay1 := fun q : Bel w1 => q.cell ay1
    have qay2 := fun q : Bel w1 => q.cell ay2
    have qay3 := fun q : Bel w1 => q.cell ay3
    have qay4 := fun q : Bel w1 => q.cell ay4
    have qay5 := fun q : Bel w1 => q.cell ay5
    have qay6 := fun q : Bel w1 => q.cell ay6
    have qax0 := fun q : Bel w1 => q.cell ax0
    have qax1 := fun q : Bel w1 => q.cell ax1
    have qax2 := fun q : Bel w1 => q.cell ax2
    have qax3 := fun q : Bel w1 => q.cell ax3
    have qax4 := fun q : Bel w1 => q.cell ax4
    have qax5 := fun q : Bel w1 => q.cell ax5
    have qac0 := fun q : Bel w1 => q.cell ac0
    have qac1 := fun q : Bel w1 => q.cell ac1
    have qac2 := fun q : Bel w1 => q.cell ac2
    have qac3 := fun q : Bel w1 => q.cell ac3
    have kOq := fun q : Bel w1 => kO q.W ((HN.out.below HA1.out.2.2.2.2).below q.h)
    have kVq := fun q : Bel w1 => kV q.W ((HN.out.below HA1.out.2.2.2.2).below q.h)
    refine wp_region_below (by kernel_rfl) (by kernel_rfl) ?_
    repeat (go_big_quiet_step ((first | (go_at_call 47; exact bel_of (kOq _)) | (go_at_call 48; exact bel_of (kVq _)))))
    refine wpQuiet_nil ?_
    intro _ hw'
    obtain ⟨pq, hw''⟩ := hw'
    subst hw''
    obtain ⟨w2, hw2⟩ : ∃ W, pq.W = W := ⟨_, rfl⟩
    have HA2 : Hid (Fou w w2 ⟨tp, ts⟩ ⟨yh, yt, ya, yv, yn, yd⟩ (.slice p m cap) ⟨yh + 1, t, aa, v, n, d⟩ ⟨ch, cr, ci, cl⟩ b cb) := by rw [← hw2]; exact HA1.out.step pq.h
    rw [hw2]
    clear qat0 qat1 qay0 qay1 qay2 qay3 qay4 qay5 qay6 qax0 qax1 qax2 qax3 qax4 qax5 qac0 qac1 qac2 qac3 kOq kVq hn
    clear at0 at1 ay0 ay1 ay2 ay3 ay4 ay5 ay6 ax0 ax1 ax2 ax3 ax4 ax5 ac0 ac1 ac2 ac3 HA1 hw2 pq
    obtain ⟨⟨at0, at1⟩, ⟨ay0, ay1, ay2, ay3, ay4, ay5, ay6⟩, ⟨ax0, ax1, ax2, ax3, ax4, ax5⟩, ⟨ac0, ac1, ac2, ac3⟩⟩ := hflat _ HA2.out
    go_wp2_with fail
    refine (kC _ (HL.out.below HA2.out.2.2.2.2) (HS.out.below HA2.out.2.2.2.2)).mono ?_
    rintro e w3 ⟨rfl, bb⟩
    have HA3 : Hid (Fou w w3 ⟨tp, ts⟩ ⟨yh, yt, ya, yv, yn, yd⟩ (.slice p m cap) ⟨yh + 1, t, aa, v, n, d⟩ ⟨ch, cr, ci, cl⟩ b cb) := HA2.out.step bb
    clear bb HA2
    go_wp2
    go_ret
    exact ⟨rfl, HA3.out.2.2.2.2⟩
  rw [if_pos rfl] at HE1
  rw [HE1]
  clear HE1
  obtain ⟨w0, hw0⟩ : ∃ W, (((w.alloc (Obj.cells #[Value.int .i64 tp, Value.int .i64 ts] 25)).alloc (Obj.cells #[Value.int .i64 yh, Value.int .i64 yt, Value.string ya, Value.string yv, Value.string yn, Value.string yd, Value.slice p m cap] 30)).alloc (Obj.cells #[Value.int .i64 (yh + 1), Value.int .i64 t, Value.string aa, Value.string v, Value.string n, Value.string d] 27)).alloc (Obj.cells #[Value.int .i64 ch, Value.int .i64 cr, Value.string ci, Value.slice b cl.length cb] 33) = W := ⟨_, rfl⟩
  have HA0 : Hid (Fou w w0 ⟨tp, ts⟩ ⟨yh, yt, ya, yv, yn, yd⟩ (.slice p m cap) ⟨yh + 1, t, aa, v, n, d⟩ ⟨ch, cr, ci, cl⟩ b cb) := by rw [← hw0]; exact H0.out
  clear H0
  obtain ⟨⟨at0, at1⟩, ⟨ay0, ay1, ay2, ay3, ay4, ay5, ay6⟩, ⟨ax0, ax1, ax2, ax3, ax4, ax5⟩, ⟨ac0, ac1, ac2, ac3⟩⟩ := hflat _ HA0.out
  have hMM := HM.out
  go_enter Tryz.func46, Tryz.ntmps46
  go_wp2_with fail
  try rw [hw0]
  have hn := bel_some w0
  have qat0 := fun q : Bel w0 => q.cell at0
  have qat1 := fun q : Bel w0 => q.cell at1
  have qay0 := fun q : Bel w0 => q.cell ay0
  have qay1 := fun q : Bel w0 => q.cell ay1
  have qay2 := fun q : Bel w0 => q.cell ay2
  have qay3 := fun q : Bel w0 => q.cell ay3
  have qay4 := fun q : Bel w0 => q.cell ay4
  have qay5 := fun q : Bel w0 => q.cell ay5
  have qay6 := fun q : Bel w0 => q.cell ay6
  have qax0 := fun q : Bel w0 => q.cell ax0
  have qax1 := fun q : Bel w0 => q.cell ax1
  have qax2 := fun q : Bel w0 => q.cell ax2
  have qax3 := fun q : Bel w0 => q.cell ax3
  have qax4 := fun q : Bel w0 => q.cell ax4
  have qax5 := fun q : Bel w0 => q.cell ax5
  have qac0 := fun q : Bel w0 => q.cell ac0
  have qac1 := fun q : Bel w0 => q.cell ac1
  have qac2 := fun q : Bel w0 => q.cell ac2
  have qac3 := fun q : Bel w0 => q.cell ac3
  have kIq := fun q : Bel w0 => kI q.W
  refine wp_region_below (by kernel_rfl) (by kernel_rfl) ?_
  repeat (go_big_quiet_step ((go_at_call 11; exact bel_of (kIq _))))
  refine wpQuiet_nil ?_
  intro _ hw'
  obtain ⟨pq, hw''⟩ := hw'
  subst hw''
  obtain ⟨w1, hw1⟩ : ∃ W, pq.W = W := ⟨_, rfl⟩
  have HA1 : Hid (Fou w w1 ⟨tp, ts⟩ ⟨yh, yt, ya, yv, yn, yd⟩ (.slice p m cap) ⟨yh + 1, t, aa, v, n, d⟩ ⟨ch, cr, ci, cl⟩ b cb) := by rw [← hw1]; exact HA0.out.step pq.h
  rw [hw1]
  clear qat0 qat1 qay0 qay1 qay2 qay3 qay4 qay5 qay6 qax0 qax1 qax2 qax3 qax4 qax5 qac0 qac1 qac2 qac3 kIq hn
  clear at0 at1 ay0 ay1 ay2 ay3 ay4 ay5 ay6 ax0 ax1 ax2 ax3 ax4 ax5 ac0 ac1 ac2 ac3 HA0 hw0 hw1 pq
  obtain ⟨⟨at0, at1⟩, ⟨ay0, ay1, ay2, ay3, ay4, ay5, ay6⟩, ⟨ax0, ax1, ax2, ax3, ax4, ax5⟩, ⟨ac0, ac1, ac2, ac3⟩⟩ := hflat _ HA1.out
  go_wp2_with fail
  have hn := bel_some w1
  have qat0 := fun q : Bel w1 => q.cell at0
  have qat1 := fun q : Bel w1 => q.cell at1
  have qay0 := fun q : Bel w1 => q.cell ay0
  have qay1 := fun q : Bel w1 => q.cell ay1
  have qay2 := fun q : Bel w1 => q.cell ay2
  have qay3 := fun q : Bel w1 => q.cell ay3
  have qay4 := fun q : Bel w1 => q.cell ay4
  have qay5 := fun q : Bel w1 => q.cell ay5
  have qay6 := fun q : Bel w1 => q.cell ay6
  have qax0 := fun q : Bel w1 => q.cell ax0
  have qax1 := fun q : Bel w1 => q.cell ax1
  have qax2 := fun q : Bel w1 => q.cell ax2
  have qax3 := fun q : Bel w1 => q.cell ax3
  have qax4 := fun q : Bel w1 => q.cell ax4
  have qax5 := fun q : Bel w1 => q.cell ax5
  have qac0 := fun q : Bel w1 => q.cell ac0
  have qac1 := fun q : Bel w1 => q.cell ac1
  have qac2 := fun q : Bel w1 => q.cell ac2
  have qac3 := fun q : Bel w1 => q.cell ac3
  have kOq := fun q : Bel w1 => kO q.W ((HN.out.below HA1.out.2.2.2.2).below q.h)
  have kVq := fun q : Bel w1 => kV q.W ((HN.out.below HA1.out.2.2.2.2).below q.h)
  refine wp_region_below (by kernel_rfl) (by kernel_rfl) ?_
  repeat (go_big_quiet_step ((first | (go_at_call 47; exact bel_of (kOq _)) | (go_at_call 48; exact bel_of (kVq _)))))
  refine wpQuiet_nil ?_
  intro _ hw'
  obtain ⟨pq, hw''⟩ := hw'
  subst hw''
  obtain ⟨w2, hw2⟩ : ∃ W, pq.W = W := ⟨_, rfl⟩
  have HA2 : Hid (Fou w w2 ⟨tp, ts⟩ ⟨yh, yt, ya, yv, yn, yd⟩ (.slice p m cap) ⟨yh + 1, t, aa, v, n, d⟩ ⟨ch, cr, ci, cl⟩ b cb) := by rw [← hw2]; exact HA1.out.step pq.h
  rw [hw2]
  clear qat0 qat1 qay0 qay1 qay2 qay3 qay4 qay5 qay6 qax0 qax1 qax2 qax3 qax4 qax5 qac0 qac1 qac2 qac3 kOq kVq hn
  clear at0 at1 ay0 ay1 ay2 ay3 ay4 ay5 ay6 ax0 ax1 ax2 ax3 ax4 ax5 ac0 ac1 ac2 ac3 HA1 hw2 pq
  obtain ⟨⟨at0, at1⟩, ⟨ay0, ay1, ay2, ay3, ay4, ay5, ay6⟩, ⟨ax0, ax1, ax2, ax3, ax4, ax5⟩, ⟨ac0, ac1, ac2, ac3⟩⟩ := hflat _ HA2.out
  go_wp2_with fail
  refine (kC _ (HL.out.below HA2.out.2.2.2.2) (HS.out.below HA2.out.2.2.2.2)).mono ?_
  rintro e w3 ⟨rfl, bb⟩
  have HA3 : Hid (Fou w w3 ⟨tp, ts⟩ ⟨yh, yt, ya, yv, yn, yd⟩ (.slice p m cap) ⟨yh + 1, t, aa, v, n, d⟩ ⟨ch, cr, ci, cl⟩ b cb) := HA2.out.step bb
  clear bb HA2
  go_wp2
  go_ret
  exact ⟨rfl, HA3.out.2.2.2.2⟩
end Go.Proofs.YtajfmjgaaapjeaaGreatDoor
namespace Go.Proofs.YtajfmjgaaapjeaaGreatDoor
open Go.RowKit
open Num
set_option linter.unusedVariables false
set_option maxHeartbeats 6400000 in
set_option maxRecDepth 100000 in
theorem spec_verify (t : Tr) (y : H) (l : List V) (p : Option Addr) (cap : Nat) (x : H) (nx : List V) (pn : Option Addr) (capn : Nat) (c : Ct) (b : Option Addr) (cb : Nat) (z : Int) (w : World) (hl : VO w p l) (hp : p = none → cap = 0) (hn : VO w pn nx) (hpn : pn = none → capn = 0) (hs : SO w b c.l) (hlen : l.length ≤ 1099511627776) (hlen2 : nx.length ≤ 1099511627776) (hlen3 : c.l.length ≤ 9223372036854775807) :
    Calls Tryz.prog 8 #[trV t, aV y (.slice p l.length cap), hV x, .slice pn nx.length capn, cV c b cb, .int .i64 z] w fun e w' => ∃ u cu, e = .returned (.tuple #[aV (nextA ⟨y, l⟩ x nx (verN t ⟨y, l⟩ x nx c z)).x (.slice u (nextA ⟨y, l⟩ x nx (verN t ⟨y, l⟩ x nx c z)).l.length cu), .int .i64 (verN t ⟨y, l⟩ x nx c z)]) ∧ Hid (OwnV w' w.heap.size (.slice u (nextA ⟨y, l⟩ x nx (verN t ⟨y, l⟩ x nx c z)).l.length cu) (nextA ⟨y, l⟩ x nx (verN t ⟨y, l⟩ x nx c z)).l) ∧ Below w.heap.size w w' := by
  have H0 : Hid (Fiv w (fivW w t y (.slice p l.length cap) x c b cb) t y (.slice p l.length cap) x c b cb) := fiv_new w t y _ x c b cb
  have HL : Hid (VO w p l) := hl
  have HN : Hid (VO w pn nx) := hn
  have HS : Hid (SO w b c.l) := hs
  have k1 := fun W => spec_tok t W
  have k2 := fun W (h : VO W p l) => spec_anchor y l p cap W h (by omega)
  have k3 := fun W => spec_ok x W
  have k4 := fun W => spec_time z W
  have kW := fun (hR : rightN t ⟨y, l⟩ x z = true) W (h : VO W p l) (g : VO W pn nx) (s : SO W b c.l) => spec_why t y l p cap x nx pn capn c b cb z W h g s (by omega) (by omega) hlen3 hR
  have kA := fun W (h : VO W p l) => spec_copy y l p cap W h hp hlen
  have kX := fun W (h : VO W pn nx) => spec_copy x nx pn capn W h hpn hlen2
  have HR : ∀ a b c d : Bool, tOk t = a → aOk ⟨y, l⟩ = b → hOk x = c → isT z = d → rightN t ⟨y, l⟩ x z = (a && (b && (c && d))) := fun a b c d h1 h2 h3 h4 => by unfold rightN; rw [h1, h2, h3, h4]
  have HB : rightN t ⟨y, l⟩ x z = false → verN t ⟨y, l⟩ x nx c z = 1 := fun h => by
    have e : timeN t ⟨y, l⟩ x z = 1 := by unfold timeN; rw [h]; rfl
    unfold verN; rw [e]; rfl
  have HA : ∀ k : Int, ¬ k = 0 → nextA ⟨y, l⟩ x nx k = ⟨y, l⟩ := fun k h => if_neg h
  have HX : nextA ⟨y, l⟩ x nx 0 = ⟨x, nx⟩ := rfl
  generalize verN t ⟨y, l⟩ x nx c z = N at *
  clear hl hn hs hp hpn
  rcases h1 : tOk t with _ | _ <;> rw [h1] at k1 HR <;> rcases h2 : aOk ⟨y, l⟩ with _ | _ <;> rw [h2] at k2 HR <;> rcases h3 : hOk x with _ | _ <;> rw [h3] at k3 HR <;> rcases h4 : isT z with _ | _ <;> rw [h4] at k4 HR
  · have hRR := HR false false false false rfl rfl rfl rfl
    have hN1 := HB hRR
    subst hN1
    rw [HA 1 (by decide)]
    simp only
    clear HR HB HA HX hRR kX kW h1 h2 h3 h4
    obtain ⟨tp, ts⟩ := t
    obtain ⟨yh, yt, ya, yv, yn, yd⟩ := y
    obtain ⟨h, t, aa, v, n, d⟩ := x
    obtain ⟨ch, cr, ci, cl⟩ := c
    unfold trV aV hV cV at *
    unfold fivW trcs acs hcs ccs at H0
    simp only at *
    have hflat : ∀ W, Fiv w W ⟨tp, ts⟩ ⟨yh, yt, ya, yv, yn, yd⟩ (.slice p l.length cap) ⟨h, t, aa, v, n, d⟩ ⟨ch, cr, ci, cl⟩ b cb → (W.cell? ⟨w.heap.size, 0, none⟩ = some (.int .i64 tp) ∧ W.cell? ⟨w.heap.size, 1, none⟩ = some (.int .i64 ts)) ∧ (W.cell? ⟨w.heap.size + 1, 0, none⟩ = some (.int .i64 yh) ∧ W.cell? ⟨w.heap.size + 1, 1, none⟩ = some (.int .i64 yt) ∧ W.cell? ⟨w.heap.size + 1, 2, none⟩ = some (.string ya) ∧ W.cell? ⟨w.heap.size + 1, 3, none⟩ = some (.string yv) ∧ W.cell? ⟨w.heap.size + 1, 4, none⟩ = some (.string yn) ∧ W.cell? ⟨w.heap.size + 1, 5, none⟩ = some (.string yd) ∧ W.cell? ⟨w.heap.size + 1, 6, none⟩ = some (.slice p l.length cap)) ∧ (W.cell? ⟨w.heap.size + 2, 0, none⟩ = some (.int .i64 h) ∧ W.cell? ⟨w.heap.size + 2, 1, none⟩ = some (.int .i64 t) ∧ W.cell? ⟨w.heap.size + 2, 2, none⟩ = some (.string aa) ∧ W.cell? ⟨w.heap.size + 2, 3, none⟩ = some (.string v) ∧ W.cell? ⟨w.heap.size + 2, 4, none⟩ = some (.string n) ∧ W.cell? ⟨w.heap.size + 2, 5, none⟩ = some (.string d)) ∧ (W.cell? ⟨w.heap.size + 3, 0, none⟩ = some (.int .i64 ch) ∧ W.cell? ⟨w.heap.size + 3, 1, none⟩ = some (.int .i64 cr) ∧ W.cell? ⟨w.heap.size + 3, 2, none⟩ = some (.string ci) ∧ W.cell? ⟨w.heap.size + 3, 3, none⟩ = some (.slice b cl.length cb)) ∧ (W.cell? ⟨w.heap.size + 4, 0, none⟩ = some (.int .i64 0) ∧ W.cell? ⟨w.heap.size + 4, 1, none⟩ = some (.int .i64 0) ∧ W.cell? ⟨w.heap.size + 4, 2, none⟩ = some (.string ⟨#[]⟩) ∧ W.cell? ⟨w.heap.size + 4, 3, none⟩ = some (.string ⟨#[]⟩) ∧ W.cell? ⟨w.heap.size + 4, 4, none⟩ = some (.string ⟨#[]⟩) ∧ W.cell? ⟨w.heap.size + 4, 5, none⟩ = some (.string ⟨#[]⟩) ∧ W.cell? ⟨w.heap.size + 4, 6, none⟩ = some (.slice none 0 0)) ∧ (W.frozen? ⟨w.heap.size + 4, 0, none⟩ = false ∧ W.frozen? ⟨w.heap.size + 4, 1, none⟩ = false ∧ W.frozen? ⟨w.heap.size + 4, 2, none⟩ = false ∧ W.frozen? ⟨w.heap.size + 4, 3, none⟩ = false ∧ W.frozen? ⟨w.heap.size + 4, 4, none⟩ = false ∧ W.frozen? ⟨w.heap.size + 4, 5, none⟩ = false ∧ W.frozen? ⟨w.heap.size + 4, 6, none⟩ = false) := fun W h => ⟨⟨h.1.cell 0 rfl, h.1.cell 1 rfl⟩, ⟨h.2.1.cell 0 rfl, h.2.1.cell 1 rfl, h.2.1.cell 2 rfl, h.2.1.cell 3 rfl, h.2.1.cell 4 rfl, h.2.1.cell 5 rfl, h.2.1.cell 6 rfl⟩, ⟨h.2.2.1.cell 0 rfl, h.2.2.1.cell 1 rfl, h.2.2.1.cell 2 rfl, h.2.2.1.cell 3 rfl, h.2.2.1.cell 4 rfl, h.2.2.1.cell 5 rfl⟩, ⟨h.2.2.2.1.cell 0 rfl, h.2.2.2.1.cell 1 rfl, h.2.2.2.1.cell 2 rfl, h.2.2.2.1.cell 3 rfl⟩, ⟨h.2.2.2.2.1.cell 0 rfl, h.2.2.2.2.1.cell 1 rfl, h.2.2.2.2.1.cell 2 rfl, h.2.2.2.2.1.cell 3 rfl, h.2.2.2.2.1.cell 4 rfl, h.2.2.2.2.1.cell 5 rfl, h.2.2.2.2.1.cell 6 rfl⟩, ⟨h.2.2.2.2.1.frozen 0, h.2.2.2.2.1.frozen 1, h.2.2.2.2.1.frozen 2, h.2.2.2.2.1.frozen 3, h.2.2.2.2.1.frozen 4, h.2.2.2.2.1.frozen 5, h.2.2.2.2.1.frozen 6⟩⟩
    obtain ⟨w0, hw0⟩ : ∃ W, ((((w.alloc (Obj.cells #[Value.int .i64 tp, Value.int .i64 ts] 25)).alloc (Obj.cells #[Value.int .i64 yh, Value.int .i64 yt, Value.string ya, Value.string yv, Value.string yn, Value.string yd, Value.slice p l.length cap] 30)).alloc (Obj.cells #[Value.int .i64 h, Value.int .i64 t, Value.string aa, Value.string v, Value.string n, Value.string d] 27)).alloc (Obj.cells #[Value.int .i64 ch, Value.int .i64 cr, Value.string ci, Value.slice b cl.length cb] 33)).alloc (Obj.cells #[Value.int .i64 0, Value.int .i64 0, Value.string ⟨#[]⟩, Value.string ⟨#[]⟩, Value.string ⟨#[]⟩, Value.string ⟨#[]⟩, Value.slice none 0 0] 30) = W := ⟨_, rfl⟩
    have HA0 : Hid (Fiv w w0 ⟨tp, ts⟩ ⟨yh, yt, ya, yv, yn, yd⟩ (.slice p l.length cap) ⟨h, t, aa, v, n, d⟩ ⟨ch, cr, ci, cl⟩ b cb) := by rw [← hw0]; exact H0.out
    clear H0
    obtain ⟨⟨at0, at1⟩, ⟨ay0, ay1, ay2, ay3, ay4, ay5, ay6⟩, ⟨ax0, ax1, ax2, ax3, ax4, ax5⟩, ⟨ac0, ac1, ac2, ac3⟩, ⟨az0, az1, az2, az3, az4, az5, az6⟩, ⟨fz0, fz1, fz2, fz3, fz4, fz5, fz6⟩⟩ := hflat _ HA0.out
    go_enter Tryz.func8, Tryz.ntmps8
    go_wp2_with fail
    try rw [hw0]
    refine (k1 _).mono ?_
    rintro e w1 ⟨rfl, bb⟩
    have HA1 : Hid (Fiv w w1 ⟨tp, ts⟩ ⟨yh, yt, ya, yv, yn, yd⟩ (.slice p l.length cap) ⟨h, t, aa, v, n, d⟩ ⟨ch, cr, ci, cl⟩ b cb) := HA0.out.step bb
    clear at0 at1 ay0 ay1 ay2 ay3 ay4 ay5 ay6 ax0 ax1 ax2 ax3 ax4 ax5 ac0 ac1 ac2 ac3 az0 az1 az2 az3 az4 az5 az6 fz0 fz1 fz2 fz3 fz4 fz5 fz6 bb HA0 hw0
    obtain ⟨⟨at0, at1⟩, ⟨ay0, ay1, ay2, ay3, ay4, ay5, ay6⟩, ⟨ax0, ax1, ax2, ax3, ax4, ax5⟩, ⟨ac0, ac1, ac2, ac3⟩, ⟨az0, az1, az2, az3, az4, az5, az6⟩, ⟨fz0, fz1, fz2, fz3, fz4, fz5, fz6⟩⟩ := hflat _ HA1.out
    go_wp2_with fail
    refine (kA _ (HL.out.below HA1.out.2.2.2.2.2)).mono ?_
    rintro e w2 ⟨u, cu, rfl, HO, bb⟩
    have HA2 : Hid (Fiv w w2 ⟨tp, ts⟩ ⟨yh, yt, ya, yv, yn, yd⟩ (.slice p l.length cap) ⟨h, t, aa, v, n, d⟩ ⟨ch, cr, ci, cl⟩ b cb) := HA1.out.step bb
    clear at0 at1 ay0 ay1 ay2 ay3 ay4 ay5 ay6 ax0 ax1 ax2 ax3 ax4 ax5 ac0 ac1 ac2 ac3 az0 az1 az2 az3 az4 az5 az6 fz0 fz1 fz2 fz3 fz4 fz5 fz6 bb
    obtain ⟨⟨at0, at1⟩, ⟨ay0, ay1, ay2, ay3, ay4, ay5, ay6⟩, ⟨ax0, ax1, ax2, ax3, ax4, ax5⟩, ⟨ac0, ac1, ac2, ac3⟩, ⟨az0, az1, az2, az3, az4, az5, az6⟩, ⟨fz0, fz1, fz2, fz3, fz4, fz5, fz6⟩⟩ := hflat _ HA2.out
    obtain ⟨w9, hw9⟩ : ∃ W, (((((((w2).setCell ⟨w.heap.size + 4, 0, none⟩ (.int .i64 yh)).setCell ⟨w.heap.size + 4, 1, none⟩ (.int .i64 yt)).setCell ⟨w.heap.size + 4, 2, none⟩ (.string ya)).setCell ⟨w.heap.size + 4, 3, none⟩ (.string yv)).setCell ⟨w.heap.size + 4, 4, none⟩ (.string yn)).setCell ⟨w.heap.size + 4, 5, none⟩ (.string yd)).setCell ⟨w.heap.size + 4, 6, none⟩ (.slice u l.length cu) = W := ⟨_, rfl⟩
    have hsz : w.heap.size + 4 < w1.heap.size := HA1.out.2.2.2.2.1.lt
    have HZ : Hid (Blk w9 (w.heap.size + 4) [.int .i64 yh, .int .i64 yt, .string ya, .string yv, .string yn, .string yd, .slice u l.length cu] 30) := by rw [← hw9]; exact (((((((HA2.out.2.2.2.2.1).set 0 _).set 1 _).set 2 _).set 3 _).set 4 _).set 5 _).set 6 _
    have HF : Below w.heap.size w w9 := by rw [← hw9]; exact (((((((HA2.out.2.2.2.2.2).setCell (show w.heap.size ≤ w.heap.size + 4 by omega) _).setCell (show w.heap.size ≤ w.heap.size + 4 by omega) _).setCell (show w.heap.size ≤ w.heap.size + 4 by omega) _).setCell (show w.heap.size ≤ w.heap.size + 4 by omega) _).setCell (show w.heap.size ≤ w.heap.size + 4 by omega) _).setCell (show w.heap.size ≤ w.heap.size + 4 by omega) _).setCell (show w.heap.size ≤ w.heap.size + 4 by omega) _
    have HO9 : Hid (OwnV w9 w.heap.size (.slice u l.length cu) l) := by rw [← hw9]; exact own_low (ownsRow_setCell_below (ownsRow_setCell_below (ownsRow_setCell_below (ownsRow_setCell_below (ownsRow_setCell_below (ownsRow_setCell_below (ownsRow_setCell_below HO.out (show w.heap.size + 4 < w1.heap.size from hsz) _) (show w.heap.size + 4 < w1.heap.size from hsz) _) (show w.heap.size + 4 < w1.heap.size from hsz) _) (show w.heap.size + 4 < w1.heap.size from hsz) _) (show w.heap.size + 4 < w1.heap.size from hsz) _) (show w.heap.size + 4 < w1.heap.size from hsz) _) (show w.heap.size + 4 < w1.heap.size from hsz) _) (by omega)
    have r0 := HZ.out.cell 0 rfl
    have r1 := HZ.out.cell 1 rfl
    have r2 := HZ.out.cell 2 rfl
    have r3 := HZ.out.cell 3 rfl
    have r4 := HZ.out.cell 4 rfl
    have r5 := HZ.out.cell 5 rfl
    have r6 := HZ.out.cell 6 rfl
    go_wp2
    try rw [hw9]
    refine bodyPost_ret (v := .tuple #[.agg #[.int .i64 yh, .int .i64 yt, .string ya, .string yv, .string yn, .string yd, .slice u l.length cu], .int .i64 1]) ?_ rfl ⟨_, _, rfl, HO9, HF⟩
    skip
    simp [results, Tryz.results8, go_sem, r0, r1, r2, r3, r4, r5, r6]
  · have hRR := HR false false false true rfl rfl rfl rfl
    have hN1 := HB hRR
    subst hN1
    rw [HA 1 (by decide)]
    simp only
    clear HR HB HA HX hRR kX kW h1 h2 h3 h4
    obtain ⟨tp, ts⟩ := t
    obtain ⟨yh, yt, ya, yv, yn, yd⟩ := y
    obtain ⟨h, t, aa, v, n, d⟩ := x
    obtain ⟨ch, cr, ci, cl⟩ := c
    unfold trV aV hV cV at *
    unfold fivW trcs acs hcs ccs at H0
    simp only at *
    have hflat : ∀ W, Fiv w W ⟨tp, ts⟩ ⟨yh, yt, ya, yv, yn, yd⟩ (.slice p l.length cap) ⟨h, t, aa, v, n, d⟩ ⟨ch, cr, ci, cl⟩ b cb → (W.cell? ⟨w.heap.size, 0, none⟩ = some (.int .i64 tp) ∧ W.cell? ⟨w.heap.size, 1, none⟩ = some (.int .i64 ts)) ∧ (W.cell? ⟨w.heap.size + 1, 0, none⟩ = some (.int .i64 yh) ∧ W.cell? ⟨w.heap.size + 1, 1, none⟩ = some (.int .i64 yt) ∧ W.cell? ⟨w.heap.size + 1, 2, none⟩ = some (.string ya) ∧ W.cell? ⟨w.heap.size + 1, 3, none⟩ = some (.string yv) ∧ W.cell? ⟨w.heap.size + 1, 4, none⟩ = some (.string yn) ∧ W.cell? ⟨w.heap.size + 1, 5, none⟩ = some (.string yd) ∧ W.cell? ⟨w.heap.size + 1, 6, none⟩ = some (.slice p l.length cap)) ∧ (W.cell? ⟨w.heap.size + 2, 0, none⟩ = some (.int .i64 h) ∧ W.cell? ⟨w.heap.size + 2, 1, none⟩ = some (.int .i64 t) ∧ W.cell? ⟨w.heap.size + 2, 2, none⟩ = some (.string aa) ∧ W.cell? ⟨w.heap.size + 2, 3, none⟩ = some (.string v) ∧ W.cell? ⟨w.heap.size + 2, 4, none⟩ = some (.string n) ∧ W.cell? ⟨w.heap.size + 2, 5, none⟩ = some (.string d)) ∧ (W.cell? ⟨w.heap.size + 3, 0, none⟩ = some (.int .i64 ch) ∧ W.cell? ⟨w.heap.size + 3, 1, none⟩ = some (.int .i64 cr) ∧ W.cell? ⟨w.heap.size + 3, 2, none⟩ = some (.string ci) ∧ W.cell? ⟨w.heap.size + 3, 3, none⟩ = some (.slice b cl.length cb)) ∧ (W.cell? ⟨w.heap.size + 4, 0, none⟩ = some (.int .i64 0) ∧ W.cell? ⟨w.heap.size + 4, 1, none⟩ = some (.int .i64 0) ∧ W.cell? ⟨w.heap.size + 4, 2, none⟩ = some (.string ⟨#[]⟩) ∧ W.cell? ⟨w.heap.size + 4, 3, none⟩ = some (.string ⟨#[]⟩) ∧ W.cell? ⟨w.heap.size + 4, 4, none⟩ = some (.string ⟨#[]⟩) ∧ W.cell? ⟨w.heap.size + 4, 5, none⟩ = some (.string ⟨#[]⟩) ∧ W.cell? ⟨w.heap.size + 4, 6, none⟩ = some (.slice none 0 0)) ∧ (W.frozen? ⟨w.heap.size + 4, 0, none⟩ = false ∧ W.frozen? ⟨w.heap.size + 4, 1, none⟩ = false ∧ W.frozen? ⟨w.heap.size + 4, 2, none⟩ = false ∧ W.frozen? ⟨w.heap.size + 4, 3, none⟩ = false ∧ W.frozen? ⟨w.heap.size + 4, 4, none⟩ = false ∧ W.frozen? ⟨w.heap.size + 4, 5, none⟩ = false ∧ W.frozen? ⟨w.heap.size + 4, 6, none⟩ = false) := fun W h => ⟨⟨h.1.cell 0 rfl, h.1.cell 1 rfl⟩, ⟨h.2.1.cell 0 rfl, h.2.1.cell 1 rfl, h.2.1.cell 2 rfl, h.2.1.cell 3 rfl, h.2.1.cell 4 rfl, h.2.1.cell 5 rfl, h.2.1.cell 6 rfl⟩, ⟨h.2.2.1.cell 0 rfl, h.2.2.1.cell 1 rfl, h.2.2.1.cell 2 rfl, h.2.2.1.cell 3 rfl, h.2.2.1.cell 4 rfl, h.2.2.1.cell 5 rfl⟩, ⟨h.2.2.2.1.cell 0 rfl, h.2.2.2.1.cell 1 rfl, h.2.2.2.1.cell 2 rfl, h.2.2.2.1.cell 3 rfl⟩, ⟨h.2.2.2.2.1.cell 0 rfl, h.2.2.2.2.1.cell 1 rfl, h.2.2.2.2.1.cell 2 rfl, h.2.2.2.2.1.cell 3 rfl, h.2.2.2.2.1.cell 4 rfl, h.2.2.2.2.1.cell 5 rfl, h.2.2.2.2.1.cell 6 rfl⟩, ⟨h.2.2.2.2.1.frozen 0, h.2.2.2.2.1.frozen 1, h.2.2.2.2.1.frozen 2, h.2.2.2.2.1.frozen 3, h.2.2.2.2.1.frozen 4, h.2.2.2.2.1.frozen 5, h.2.2.2.2.1.frozen 6⟩⟩
    obtain ⟨w0, hw0⟩ : ∃ W, ((((w.alloc (Obj.cells #[Value.int .i64 tp, Value.int .i64 ts] 25)).alloc (Obj.cells #[Value.int .i64 yh, Value.int .i64 yt, Value.string ya, Value.string yv, Value.string yn, Value.string yd, Value.slice p l.length cap] 30)).alloc (Obj.cells #[Value.int .i64 h, Value.int .i64 t, Value.string aa, Value.string v, Value.string n, Value.string d] 27)).alloc (Obj.cells #[Value.int .i64 ch, Value.int .i64 cr, Value.string ci, Value.slice b cl.length cb] 33)).alloc (Obj.cells #[Value.int .i64 0, Value.int .i64 0, Value.string ⟨#[]⟩, Value.string ⟨#[]⟩, Value.string ⟨#[]⟩, Value.string ⟨#[]⟩, Value.slice none 0 0] 30) = W := ⟨_, rfl⟩
    have HA0 : Hid (Fiv w w0 ⟨tp, ts⟩ ⟨yh, yt, ya, yv, yn, yd⟩ (.slice p l.length cap) ⟨h, t, aa, v, n, d⟩ ⟨ch, cr, ci, cl⟩ b cb) := by rw [← hw0]; exact H0.out
    clear H0
    obtain ⟨⟨at0, at1⟩, ⟨ay0, ay1, ay2, ay3, ay4, ay5, ay6⟩, ⟨ax0, ax1, ax2, ax3, ax4, ax5⟩, ⟨ac0, ac1, ac2, ac3⟩, ⟨az0, az1, az2, az3, az4, az5, az6⟩, ⟨fz0, fz1, fz2, fz3, fz4, fz5, fz6⟩⟩ := hflat _ HA0.out
    go_enter Tryz.func8, Tryz.ntmps8
    go_wp2_with fail
    try rw [hw0]
    refine (k1 _).mono ?_
    rintro e w1 ⟨rfl, bb⟩
    have HA1 : Hid (Fiv w w1 ⟨tp, ts⟩ ⟨yh, yt, ya, yv, yn, yd⟩ (.slice p l.length cap) ⟨h, t, aa, v, n, d⟩ ⟨ch, cr, ci, cl⟩ b cb) := HA0.out.step bb
    clear at0 at1 ay0 ay1 ay2 ay3 ay4 ay5 ay6 ax0 ax1 ax2 ax3 ax4 ax5 ac0 ac1 ac2 ac3 az0 az1 az2 az3 az4 az5 az6 fz0 fz1 fz2 fz3 fz4 fz5 fz6 bb HA0 hw0
    obtain ⟨⟨at0, at1⟩, ⟨ay0, ay1, ay2, ay3, ay4, ay5, ay6⟩, ⟨ax0, ax1, ax2, ax3, ax4, ax5⟩, ⟨ac0, ac1, ac2, ac3⟩, ⟨az0, az1, az2, az3, az4, az5, az6⟩, ⟨fz0, fz1, fz2, fz3, fz4, fz5, fz6⟩⟩ := hflat _ HA1.out
    go_wp2_with fail
    refine (kA _ (HL.out.below HA1.out.2.2.2.2.2)).mono ?_
    rintro e w2 ⟨u, cu, rfl, HO, bb⟩
    have HA2 : Hid (Fiv w w2 ⟨tp, ts⟩ ⟨yh, yt, ya, yv, yn, yd⟩ (.slice p l.length cap) ⟨h, t, aa, v, n, d⟩ ⟨ch, cr, ci, cl⟩ b cb) := HA1.out.step bb
    clear at0 at1 ay0 ay1 ay2 ay3 ay4 ay5 ay6 ax0 ax1 ax2 ax3 ax4 ax5 ac0 ac1 ac2 ac3 az0 az1 az2 az3 az4 az5 az6 fz0 fz1 fz2 fz3 fz4 fz5 fz6 bb
    obtain ⟨⟨at0, at1⟩, ⟨ay0, ay1, ay2, ay3, ay4, ay5, ay6⟩, ⟨ax0, ax1, ax2, ax3, ax4, ax5⟩, ⟨ac0, ac1, ac2, ac3⟩, ⟨az0, az1, az2, az3, az4, az5, az6⟩, ⟨fz0, fz1, fz2, fz3, fz4, fz5, fz6⟩⟩ := hflat _ HA2.out
    obtain ⟨w9, hw9⟩ : ∃ W, (((((((w2).setCell ⟨w.heap.size + 4, 0, none⟩ (.int .i64 yh)).setCell ⟨w.heap.size + 4, 1, none⟩ (.int .i64 yt)).setCell ⟨w.heap.size + 4, 2, none⟩ (.string ya)).setCell ⟨w.heap.size + 4, 3, none⟩ (.string yv)).setCell ⟨w.heap.size + 4, 4, none⟩ (.string yn)).setCell ⟨w.heap.size + 4, 5, none⟩ (.string yd)).setCell ⟨w.heap.size + 4, 6, none⟩ (.slice u l.length cu) = W := ⟨_, rfl⟩
    have hsz : w.heap.size + 4 < w1.heap.size := HA1.out.2.2.2.2.1.lt
    have HZ : Hid (Blk w9 (w.heap.size + 4) [.int .i64 yh, .int .i64 yt, .string ya, .string yv, .string yn, .string yd, .slice u l.length cu] 30) := by rw [← hw9]; exact (((((((HA2.out.2.2.2.2.1).set 0 _).set 1 _).set 2 _).set 3 _).set 4 _).set 5 _).set 6 _
    have HF : Below w.heap.size w w9 := by rw [← hw9]; exact (((((((HA2.out.2.2.2.2.2).setCell (show w.heap.size ≤ w.heap.size + 4 by omega) _).setCell (show w.heap.size ≤ w.heap.size + 4 by omega) _).setCell (show w.heap.size ≤ w.heap.size + 4 by omega) _).setCell (show w.heap.size ≤ w.heap.size + 4 by omega) _).setCell (show w.heap.size ≤ w.heap.size + 4 by omega) _).setCell (show w.heap.size ≤ w.heap.size + 4 by omega) _).setCell (show w.heap.size ≤ w.heap.size + 4 by omega) _
    have HO9 : Hid (OwnV w9 w.heap.size (.slice u l.length cu) l) := by rw [← hw9]; exact own_low (ownsRow_setCell_below (ownsRow_setCell_below (ownsRow_setCell_below (ownsRow_setCell_below (ownsRow_setCell_below (ownsRow_setCell_below (ownsRow_setCell_below HO.out (show w.heap.size + 4 < w1.heap.size from hsz) _) (show w.heap.size + 4 < w1.heap.size from hsz) _) (show w.heap.size + 4 < w1.heap.size from hsz) _) (show w.heap.size + 4 < w1.heap.size from hsz) _) (show w.heap.size + 4 < w1.heap.size from hsz) _) (show w.heap.size + 4 < w1.heap.size from hsz) _) (show w.heap.size + 4 < w1.heap.size from hsz) _) (by omega)
    have r0 := HZ.out.cell 0 rfl
    have r1 := HZ.out.cell 1 rfl
    have r2 := HZ.out.cell 2 rfl
    have r3 := HZ.out.cell 3 rfl
    have r4 := HZ.out.cell 4 rfl
    have r5 := HZ.out.cell 5 rfl
    have r6 := HZ.out.cell 6 rfl
    go_wp2
    try rw [hw9]
    refine bodyPost_ret (v := .tuple #[.agg #[.int .i64 yh, .int .i64 yt, .string ya, .string yv, .string yn, .string yd, .slice u l.length cu], .int .i64 1]) ?_ rfl ⟨_, _, rfl, HO9, HF⟩
    skip
    simp [results, Tryz.results8, go_sem, r0, r1, r2, r3, r4, r5, r6]
  · have hRR := HR false false true false rfl rfl rfl rfl
    have hN1 := HB hRR
    subst hN1
    rw [HA 1 (by decide)]
    simp only
    clear HR HB HA HX hRR kX kW h1 h2 h3 h4
    obtain ⟨tp, ts⟩ := t
    obtain ⟨yh, yt, ya, yv, yn, yd⟩ := y
    obtain ⟨h, t, aa, v, n, d⟩ := x
    obtain ⟨ch, cr, ci, cl⟩ := c
    unfold trV aV hV cV at *
    unfold fivW trcs acs hcs ccs at H0
    simp only at *
    have hflat : ∀ W, Fiv w W ⟨tp, ts⟩ ⟨yh, yt, ya, yv, yn, yd⟩ (.slice p l.length cap) ⟨h, t, aa, v, n, d⟩ ⟨ch, cr, ci, cl⟩ b cb → (W.cell? ⟨w.heap.size, 0, none⟩ = some (.int .i64 tp) ∧ W.cell? ⟨w.heap.size, 1, none⟩ = some (.int .i64 ts)) ∧ (W.cell? ⟨w.heap.size + 1, 0, none⟩ = some (.int .i64 yh) ∧ W.cell? ⟨w.heap.size + 1, 1, none⟩ = some (.int .i64 yt) ∧ W.cell? ⟨w.heap.size + 1, 2, none⟩ = some (.string ya) ∧ W.cell? ⟨w.heap.size + 1, 3, none⟩ = some (.string yv) ∧ W.cell? ⟨w.heap.size + 1, 4, none⟩ = some (.string yn) ∧ W.cell? ⟨w.heap.size + 1, 5, none⟩ = some (.string yd) ∧ W.cell? ⟨w.heap.size + 1, 6, none⟩ = some (.slice p l.length cap)) ∧ (W.cell? ⟨w.heap.size + 2, 0, none⟩ = some (.int .i64 h) ∧ W.cell? ⟨w.heap.size + 2, 1, none⟩ = some (.int .i64 t) ∧ W.cell? ⟨w.heap.size + 2, 2, none⟩ = some (.string aa) ∧ W.cell? ⟨w.heap.size + 2, 3, none⟩ = some (.string v) ∧ W.cell? ⟨w.heap.size + 2, 4, none⟩ = some (.string n) ∧ W.cell? ⟨w.heap.size + 2, 5, none⟩ = some (.string d)) ∧ (W.cell? ⟨w.heap.size + 3, 0, none⟩ = some (.int .i64 ch) ∧ W.cell? ⟨w.heap.size + 3, 1, none⟩ = some (.int .i64 cr) ∧ W.cell? ⟨w.heap.size + 3, 2, none⟩ = some (.string ci) ∧ W.cell? ⟨w.heap.size + 3, 3, none⟩ = some (.slice b cl.length cb)) ∧ (W.cell? ⟨w.heap.size + 4, 0, none⟩ = some (.int .i64 0) ∧ W.cell? ⟨w.heap.size + 4, 1, none⟩ = some (.int .i64 0) ∧ W.cell? ⟨w.heap.size + 4, 2, none⟩ = some (.string ⟨#[]⟩) ∧ W.cell? ⟨w.heap.size + 4, 3, none⟩ = some (.string ⟨#[]⟩) ∧ W.cell? ⟨w.heap.size + 4, 4, none⟩ = some (.string ⟨#[]⟩) ∧ W.cell? ⟨w.heap.size + 4, 5, none⟩ = some (.string ⟨#[]⟩) ∧ W.cell? ⟨w.heap.size + 4, 6, none⟩ = some (.slice none 0 0)) ∧ (W.frozen? ⟨w.heap.size + 4, 0, none⟩ = false ∧ W.frozen? ⟨w.heap.size + 4, 1, none⟩ = false ∧ W.frozen? ⟨w.heap.size + 4, 2, none⟩ = false ∧ W.frozen? ⟨w.heap.size + 4, 3, none⟩ = false ∧ W.frozen? ⟨w.heap.size + 4, 4, none⟩ = false ∧ W.frozen? ⟨w.heap.size + 4, 5, none⟩ = false ∧ W.frozen? ⟨w.heap.size + 4, 6, none⟩ = false) := fun W h => ⟨⟨h.1.cell 0 rfl, h.1.cell 1 rfl⟩, ⟨h.2.1.cell 0 rfl, h.2.1.cell 1 rfl, h.2.1.cell 2 rfl, h.2.1.cell 3 rfl, h.2.1.cell 4 rfl, h.2.1.cell 5 rfl, h.2.1.cell 6 rfl⟩, ⟨h.2.2.1.cell 0 rfl, h.2.2.1.cell 1 rfl, h.2.2.1.cell 2 rfl, h.2.2.1.cell 3 rfl, h.2.2.1.cell 4 rfl, h.2.2.1.cell 5 rfl⟩, ⟨h.2.2.2.1.cell 0 rfl, h.2.2.2.1.cell 1 rfl, h.2.2.2.1.cell 2 rfl, h.2.2.2.1.cell 3 rfl⟩, ⟨h.2.2.2.2.1.cell 0 rfl, h.2.2.2.2.1.cell 1 rfl, h.2.2.2.2.1.cell 2 rfl, h.2.2.2.2.1.cell 3 rfl, h.2.2.2.2.1.cell 4 rfl, h.2.2.2.2.1.cell 5 rfl, h.2.2.2.2.1.cell 6 rfl⟩, ⟨h.2.2.2.2.1.frozen 0, h.2.2.2.2.1.frozen 1, h.2.2.2.2.1.frozen 2, h.2.2.2.2.1.frozen 3, h.2.2.2.2.1.frozen 4, h.2.2.2.2.1.frozen 5, h.2.2.2.2.1.frozen 6⟩⟩
    obtain ⟨w0, hw0⟩ : ∃ W, ((((w.alloc (Obj.cells #[Value.int .i64 tp, Value.int .i64 ts] 25)).alloc (Obj.cells #[Value.int .i64 yh, Value.int .i64 yt, Value.string ya, Value.string yv, Value.string yn, Value.string yd, Value.slice p l.length cap] 30)).alloc (Obj.cells #[Value.int .i64 h, Value.int .i64 t, Value.string aa, Value.string v, Value.string n, Value.string d] 27)).alloc (Obj.cells #[Value.int .i64 ch, Value.int .i64 cr, Value.string ci, Value.slice b cl.length cb] 33)).alloc (Obj.cells #[Value.int .i64 0, Value.int .i64 0, Value.string ⟨#[]⟩, Value.string ⟨#[]⟩, Value.string ⟨#[]⟩, Value.string ⟨#[]⟩, Value.slice none 0 0] 30) = W := ⟨_, rfl⟩
    have HA0 : Hid (Fiv w w0 ⟨tp, ts⟩ ⟨yh, yt, ya, yv, yn, yd⟩ (.slice p l.length cap) ⟨h, t, aa, v, n, d⟩ ⟨ch, cr, ci, cl⟩ b cb) := by rw [← hw0]; exact H0.out
    clear H0
    obtain ⟨⟨at0, at1⟩, ⟨ay0, ay1, ay2, ay3, ay4, ay5, ay6⟩, ⟨ax0, ax1, ax2, ax3, ax4, ax5⟩, ⟨ac0, ac1, ac2, ac3⟩, ⟨az0, az1, az2, az3, az4, az5, az6⟩, ⟨fz0, fz1, fz2, fz3, fz4, fz5, fz6⟩⟩ := hflat _ HA0.out
    go_enter Tryz.func8, Tryz.ntmps8
    go_wp2_with fail
    try rw [hw0]
    refine (k1 _).mono ?_
    rintro e w1 ⟨rfl, bb⟩
    have HA1 : Hid (Fiv w w1 ⟨tp, ts⟩ ⟨yh, yt, ya, yv, yn, yd⟩ (.slice p l.length cap) ⟨h, t, aa, v, n, d⟩ ⟨ch, cr, ci, cl⟩ b cb) := HA0.out.step bb
    clear at0 at1 ay0 ay1 ay2 ay3 ay4 ay5 ay6 ax0 ax1 ax2 ax3 ax4 ax5 ac0 ac1 ac2 ac3 az0 az1 az2 az3 az4 az5 az6 fz0 fz1 fz2 fz3 fz4 fz5 fz6 bb HA0 hw0
    obtain ⟨⟨at0, at1⟩, ⟨ay0, ay1, ay2, ay3, ay4, ay5, ay6⟩, ⟨ax0, ax1, ax2, ax3, ax4, ax5⟩, ⟨ac0, ac1, ac2, ac3⟩, ⟨az0, az1, az2, az3, az4, az5, az6⟩, ⟨fz0, fz1, fz2, fz3, fz4, fz5, fz6⟩⟩ := hflat _ HA1.out
    go_wp2_with fail
    refine (kA _ (HL.out.below HA1.out.2.2.2.2.2)).mono ?_
    rintro e w2 ⟨u, cu, rfl, HO, bb⟩
    have HA2 : Hid (Fiv w w2 ⟨tp, ts⟩ ⟨yh, yt, ya, yv, yn, yd⟩ (.slice p l.length cap) ⟨h, t, aa, v, n, d⟩ ⟨ch, cr, ci, cl⟩ b cb) := HA1.out.step bb
    clear at0 at1 ay0 ay1 ay2 ay3 ay4 ay5 ay6 ax0 ax1 ax2 ax3 ax4 ax5 ac0 ac1 ac2 ac3 az0 az1 az2 az3 az4 az5 az6 fz0 fz1 fz2 fz3 fz4 fz5 fz6 bb
    obtain ⟨⟨at0, at1⟩, ⟨ay0, ay1, ay2, ay3, ay4, ay5, ay6⟩, ⟨ax0, ax1, ax2, ax3, ax4, ax5⟩, ⟨ac0, ac1, ac2, ac3⟩, ⟨az0, az1, az2, az3, az4, az5, az6⟩, ⟨fz0, fz1, fz2, fz3, fz4, fz5, fz6⟩⟩ := hflat _ HA2.out
    obtain ⟨w9, hw9⟩ : ∃ W, (((((((w2).setCell ⟨w.heap.size + 4, 0, none⟩ (.int .i64 yh)).setCell ⟨w.heap.size + 4, 1, none⟩ (.int .i64 yt)).setCell ⟨w.heap.size + 4, 2, none⟩ (.string ya)).setCell ⟨w.heap.size + 4, 3, none⟩ (.string yv)).setCell ⟨w.heap.size + 4, 4, none⟩ (.string yn)).setCell ⟨w.heap.size + 4, 5, none⟩ (.string yd)).setCell ⟨w.heap.size + 4, 6, none⟩ (.slice u l.length cu) = W := ⟨_, rfl⟩
    have hsz : w.heap.size + 4 < w1.heap.size := HA1.out.2.2.2.2.1.lt
    have HZ : Hid (Blk w9 (w.heap.size + 4) [.int .i64 yh, .int .i64 yt, .string ya, .string yv, .string yn, .string yd, .slice u l.length cu] 30) := by rw [← hw9]; exact (((((((HA2.out.2.2.2.2.1).set 0 _).set 1 _).set 2 _).set 3 _).set 4 _).set 5 _).set 6 _
    have HF : Below w.heap.size w w9 := by rw [← hw9]; exact (((((((HA2.out.2.2.2.2.2).setCell (show w.heap.size ≤ w.heap.size + 4 by omega) _).setCell (show w.heap.size ≤ w.heap.size + 4 by omega) _).setCell (show w.heap.size ≤ w.heap.size + 4 by omega) _).setCell (show w.heap.size ≤ w.heap.size + 4 by omega) _).setCell (show w.heap.size ≤ w.heap.size + 4 by omega) _).setCell (show w.heap.size ≤ w.heap.size + 4 by omega) _).setCell (show w.heap.size ≤ w.heap.size + 4 by omega) _
    have HO9 : Hid (OwnV w9 w.heap.size (.slice u l.length cu) l) := by rw [← hw9]; exact own_low (ownsRow_setCell_below (ownsRow_setCell_below (ownsRow_setCell_below (ownsRow_setCell_below (ownsRow_setCell_below (ownsRow_setCell_below (ownsRow_setCell_below HO.out (show w.heap.size + 4 < w1.heap.size from hsz) _) (show w.heap.size + 4 < w1.heap.size from hsz) _) (show w.heap.size + 4 < w1.heap.size from hsz) _) (show w.heap.size + 4 < w1.heap.size from hsz) _) (show w.heap.size + 4 < w1.heap.size from hsz) _) (show w.heap.size + 4 < w1.heap.size from hsz) _) (show w.heap.size + 4 < w1.heap.size from hsz) _) (by omega)
    have r0 := HZ.out.cell 0 rfl
    have r1 := HZ.out.cell 1 rfl
    have r2 := HZ.out.cell 2 rfl
    have r3 := HZ.out.cell 3 rfl
    have r4 := HZ.out.cell 4 rfl
    have r5 := HZ.out.cell 5 rfl
    have r6 := HZ.out.cell 6 rfl
    go_wp2
    try rw [hw9]
    refine bodyPost_ret (v := .tuple #[.agg #[.int .i64 yh, .int .i64 yt, .string ya, .string yv, .string yn, .string yd, .slice u l.length cu], .int .i64 1]) ?_ rfl ⟨_, _, rfl, HO9, HF⟩
    skip
    simp [results, Tryz.results8, go_sem, r0, r1, r2, r3, r4, r5, r6]
  · have hRR := HR false false true true rfl rfl rfl rfl
    have hN1 := HB hRR
    subst hN1
    rw [HA 1 (by decide)]
    simp only
    clear HR HB HA HX hRR kX kW h1 h2 h3 h4
    obtain ⟨tp, ts⟩ := t
    obtain ⟨yh, yt, ya, yv, yn, yd⟩ := y
    obtain ⟨h, t, aa, v, n, d⟩ := x
    obtain ⟨ch, cr, ci, cl⟩ := c
    unfold trV aV hV cV at *
    unfold fivW trcs acs hcs ccs at H0
    simp only at *
    have hflat : ∀ W, Fiv w W ⟨tp, ts⟩ ⟨yh, yt, ya, yv, yn, yd⟩ (.slice p l.length cap) ⟨h, t, aa, v, n, d⟩ ⟨ch, cr, ci, cl⟩ b cb → (W.cell? ⟨w.heap.size, 0, none⟩ = some (.int .i64 tp) ∧ W.cell? ⟨w.heap.size, 1, none⟩ = some (.int .i64 ts)) ∧ (W.cell? ⟨w.heap.size + 1, 0, none⟩ = some (.int .i64 yh) ∧ W.cell? ⟨w.heap.size + 1, 1, none⟩ = some (.int .i64 yt) ∧ W.cell? ⟨w.heap.size + 1, 2, none⟩ = some (.string ya) ∧ W.cell? ⟨w.heap.size + 1, 3, none⟩ = some (.string yv) ∧ W.cell? ⟨w.heap.size + 1, 4, none⟩ = some (.string yn) ∧ W.cell? ⟨w.heap.size + 1, 5, none⟩ = some (.string yd) ∧ W.cell? ⟨w.heap.size + 1, 6, none⟩ = some (.slice p l.length cap)) ∧ (W.cell? ⟨w.heap.size + 2, 0, none⟩ = some (.int .i64 h) ∧ W.cell? ⟨w.heap.size + 2, 1, none⟩ = some (.int .i64 t) ∧ W.cell? ⟨w.heap.size + 2, 2, none⟩ = some (.string aa) ∧ W.cell? ⟨w.heap.size + 2, 3, none⟩ = some (.string v) ∧ W.cell? ⟨w.heap.size + 2, 4, none⟩ = some (.string n) ∧ W.cell? ⟨w.heap.size + 2, 5, none⟩ = some (.string d)) ∧ (W.cell? ⟨w.heap.size + 3, 0, none⟩ = some (.int .i64 ch) ∧ W.cell? ⟨w.heap.size + 3, 1, none⟩ = some (.int .i64 cr) ∧ W.cell? ⟨w.heap.size + 3, 2, none⟩ = some (.string ci) ∧ W.cell? ⟨w.heap.size + 3, 3, none⟩ = some (.slice b cl.length cb)) ∧ (W.cell? ⟨w.heap.size + 4, 0, none⟩ = some (.int .i64 0) ∧ W.cell? ⟨w.heap.size + 4, 1, none⟩ = some (.int .i64 0) ∧ W.cell? ⟨w.heap.size + 4, 2, none⟩ = some (.string ⟨#[]⟩) ∧ W.cell? ⟨w.heap.size + 4, 3, none⟩ = some (.string ⟨#[]⟩) ∧ W.cell? ⟨w.heap.size + 4, 4, none⟩ = some (.string ⟨#[]⟩) ∧ W.cell? ⟨w.heap.size + 4, 5, none⟩ = some (.string ⟨#[]⟩) ∧ W.cell? ⟨w.heap.size + 4, 6, none⟩ = some (.slice none 0 0)) ∧ (W.frozen? ⟨w.heap.size + 4, 0, none⟩ = false ∧ W.frozen? ⟨w.heap.size + 4, 1, none⟩ = false ∧ W.frozen? ⟨w.heap.size + 4, 2, none⟩ = false ∧ W.frozen? ⟨w.heap.size + 4, 3, none⟩ = false ∧ W.frozen? ⟨w.heap.size + 4, 4, none⟩ = false ∧ W.frozen? ⟨w.heap.size + 4, 5, none⟩ = false ∧ W.frozen? ⟨w.heap.size + 4, 6, none⟩ = false) := fun W h => ⟨⟨h.1.cell 0 rfl, h.1.cell 1 rfl⟩, ⟨h.2.1.cell 0 rfl, h.2.1.cell 1 rfl, h.2.1.cell 2 rfl, h.2.1.cell 3 rfl, h.2.1.cell 4 rfl, h.2.1.cell 5 rfl, h.2.1.cell 6 rfl⟩, ⟨h.2.2.1.cell 0 rfl, h.2.2.1.cell 1 rfl, h.2.2.1.cell 2 rfl, h.2.2.1.cell 3 rfl, h.2.2.1.cell 4 rfl, h.2.2.1.cell 5 rfl⟩, ⟨h.2.2.2.1.cell 0 rfl, h.2.2.2.1.cell 1 rfl, h.2.2.2.1.cell 2 rfl, h.2.2.2.1.cell 3 rfl⟩, ⟨h.2.2.2.2.1.cell 0 rfl, h.2.2.2.2.1.cell 1 rfl, h.2.2.2.2.1.cell 2 rfl, h.2.2.2.2.1.cell 3 rfl, h.2.2.2.2.1.cell 4 rfl, h.2.2.2.2.1.cell 5 rfl, h.2.2.2.2.1.cell 6 rfl⟩, ⟨h.2.2.2.2.1.frozen 0, h.2.2.2.2.1.frozen 1, h.2.2.2.2.1.frozen 2, h.2.2.2.2.1.frozen 3, h.2.2.2.2.1.frozen 4, h.2.2.2.2.1.frozen 5, h.2.2.2.2.1.frozen 6⟩⟩
    obtain ⟨w0, hw0⟩ : ∃ W, ((((w.alloc (Obj.cells #[Value.int .i64 tp, Value.int .i64 ts] 25)).alloc (Obj.cells #[Value.int .i64 yh, Value.int .i64 yt, Value.string ya, Value.string yv, Value.string yn, Value.string yd, Value.slice p l.length cap] 30)).alloc (Obj.cells #[Value.int .i64 h, Value.int .i64 t, Value.string aa, Value.string v, Value.string n, Value.string d] 27)).alloc (Obj.cells #[Value.int .i64 ch, Value.int .i64 cr, Value.string ci, Value.slice b cl.length cb] 33)).alloc (Obj.cells #[Value.int .i64 0, Value.int .i64 0, Value.string ⟨#[]⟩, Value.string ⟨#[]⟩, Value.string ⟨#[]⟩, Value.string ⟨#[]⟩, Value.slice none 0 0] 30) = W := ⟨_, rfl⟩
    have HA0 : Hid (Fiv w w0 ⟨tp, ts⟩ ⟨yh, yt, ya, yv, yn, yd⟩ (.slice p l.length cap) ⟨h, t, aa, v, n, d⟩ ⟨ch, cr, ci, cl⟩ b cb) := by rw [← hw0]; exact H0.out
    clear H0
    obtain ⟨⟨at0, at1⟩, ⟨ay0, ay1, ay2, ay3, ay4, ay5, ay6⟩, ⟨ax0, ax1, ax2, ax3, ax4, ax5⟩, ⟨ac0, ac1, ac2, ac3⟩, ⟨az0, az1, az2, az3, az4, az5, az6⟩, ⟨fz0, fz1, fz2, fz3, fz4, fz5, fz6⟩⟩ := hflat _ HA0.out
    go_enter Tryz.func8, Tryz.ntmps8
    go_wp2_with fail
    try rw [hw0]
    refine (k1 _).mono ?_
    rintro e w1 ⟨rfl, bb⟩
    have HA1 : Hid (Fiv w w1 ⟨tp, ts⟩ ⟨yh, yt, ya, yv, yn, yd⟩ (.slice p l.length cap) ⟨h, t, aa, v, n, d⟩ ⟨ch, cr, ci, cl⟩ b cb) := HA0.out.step bb
    clear at0 at1 ay0 ay1 ay2 ay3 ay4 ay5 ay6 ax0 ax1 ax2 ax3 ax4 ax5 ac0 ac1 ac2 ac3 az0 az1 az2 az3 az4 az5 az6 fz0 fz1 fz2 fz3 fz4 fz5 fz6 bb HA0 hw0
    obtain ⟨⟨at0, at1⟩, ⟨ay0, ay1, ay2, ay3, ay4, ay5, ay6⟩, ⟨ax0, ax1, ax2, ax3, ax4, ax5⟩, ⟨ac0, ac1, ac2, ac3⟩, ⟨az0, az1, az2, az3, az4, az5, az6⟩, ⟨fz0, fz1, fz2, fz3, fz4, fz5, fz6⟩⟩ := hflat _ HA1.out
    go_wp2_with fail
    refine (kA _ (HL.out.below HA1.out.2.2.2.2.2)).mono ?_
    rintro e w2 ⟨u, cu, rfl, HO, bb⟩
    have HA2 : Hid (Fiv w w2 ⟨tp, ts⟩ ⟨yh, yt, ya, yv, yn, yd⟩ (.slice p l.length cap) ⟨h, t, aa, v, n, d⟩ ⟨ch, cr, ci, cl⟩ b cb) := HA1.out.step bb
    clear at0 at1 ay0 ay1 ay2 ay3 ay4 ay5 ay6 ax0 ax1 ax2 ax3 ax4 ax5 ac0 ac1 ac2 ac3 az0 az1 az2 az3 az4 az5 az6 fz0 fz1 fz2 fz3 fz4 fz5 fz6 bb
    obtain ⟨⟨at0, at1⟩, ⟨ay0, ay1, ay2, ay3, ay4, ay5, ay6⟩, ⟨ax0, ax1, ax2, ax3, ax4, ax5⟩, ⟨ac0, ac1, ac2, ac3⟩, ⟨az0, az1, az2, az3, az4, az5, az6⟩, ⟨fz0, fz1, fz2, fz3, fz4, fz5, fz6⟩⟩ := hflat _ HA2.out
    obtain ⟨w9, hw9⟩ : ∃ W, (((((((w2).setCell ⟨w.heap.size + 4, 0, none⟩ (.int .i64 yh)).setCell ⟨w.heap.size + 4, 1, none⟩ (.int .i64 yt)).setCell ⟨w.heap.size + 4, 2, none⟩ (.string ya)).setCell ⟨w.heap.size + 4, 3, none⟩ (.string yv)).setCell ⟨w.heap.size + 4, 4, none⟩ (.string yn)).setCell ⟨w.heap.size + 4, 5, none⟩ (.string yd)).setCell ⟨w.heap.size + 4, 6, none⟩ (.slice u l.length cu) = W := ⟨_, rfl⟩
    have hsz : w.heap.size + 4 < w1.heap.size := HA1.out.2.2.2.2.1.lt
    have HZ : Hid (Blk w9 (w.heap.size + 4) [.int .i64 yh, .int .i64 yt, .string ya, .string yv, .string yn, .string yd, .slice u l.length cu] 30) := by rw [← hw9]; exact (((((((HA2.out.2.2.2.2.1).set 0 _).set 1 _).set 2 _).set 3 _).set 4 _).set 5 _).set 6 _
    have HF : Below w.heap.size w w9 := by rw [← hw9]; exact (((((((HA2.out.2.2.2.2.2).setCell (show w.heap.size ≤ w.heap.size + 4 by omega) _).setCell (show w.heap.size ≤ w.heap.size + 4 by omega) _).setCell (show w.heap.size ≤ w.heap.size + 4 by omega) _).setCell (show w.heap.size ≤ w.heap.size + 4 by omega) _).setCell (show w.heap.size ≤ w.heap.size + 4 by omega) _).setCell (show w.heap.size ≤ w.heap.size + 4 by omega) _).setCell (show w.heap.size ≤ w.heap.size + 4 by omega) _
    have HO9 : Hid (OwnV w9 w.heap.size (.slice u l.length cu) l) := by rw [← hw9]; exact own_low (ownsRow_setCell_below (ownsRow_setCell_below (ownsRow_setCell_below (ownsRow_setCell_below (ownsRow_setCell_below (ownsRow_setCell_below (ownsRow_setCell_below HO.out (show w.heap.size + 4 < w1.heap.size from hsz) _) (show w.heap.size + 4 < w1.heap.size from hsz) _) (show w.heap.size + 4 < w1.heap.size from hsz) _) (show w.heap.size + 4 < w1.heap.size from hsz) _) (show w.heap.size + 4 < w1.heap.size from hsz) _) (show w.heap.size + 4 < w1.heap.size from hsz) _) (show w.heap.size + 4 < w1.heap.size from hsz) _) (by omega)
    have r0 := HZ.out.cell 0 rfl
    have r1 := HZ.out.cell 1 rfl
    have r2 := HZ.out.cell 2 rfl
    have r3 := HZ.out.cell 3 rfl
    have r4 := HZ.out.cell 4 rfl
    have r5 := HZ.out.cell 5 rfl
    have r6 := HZ.out.cell 6 rfl
    go_wp2
    try rw [hw9]
    refine bodyPost_ret (v := .tuple #[.agg #[.int .i64 yh, .int .i64 yt, .string ya, .string yv, .string yn, .string yd, .slice u l.length cu], .int .i64 1]) ?_ rfl ⟨_, _, rfl, HO9, HF⟩
    skip
    simp [results, Tryz.results8, go_sem, r0, r1, r2, r3, r4, r5, r6]
  · have hRR := HR false true false false rfl rfl rfl rfl
    have hN1 := HB hRR
    subst hN1
    rw [HA 1 (by decide)]
    simp only
    clear HR HB HA HX hRR kX kW h1 h2 h3 h4
    obtain ⟨tp, ts⟩ := t
    obtain ⟨yh, yt, ya, yv, yn, yd⟩ := y
    obtain ⟨h, t, aa, v, n, d⟩ := x
    obtain ⟨ch, cr, ci, cl⟩ := c
    unfold trV aV hV cV at *
    unfold fivW trcs acs hcs ccs at H0
    simp only at *
    have hflat : ∀ W, Fiv w W ⟨tp, ts⟩ ⟨yh, yt, ya, yv, yn, yd⟩ (.slice p l.length cap) ⟨h, t, aa, v, n, d⟩ ⟨ch, cr, ci, cl⟩ b cb → (W.cell? ⟨w.heap.size, 0, none⟩ = some (.int .i64 tp) ∧ W.cell? ⟨w.heap.size, 1, none⟩ = some (.int .i64 ts)) ∧ (W.cell? ⟨w.heap.size + 1, 0, none⟩ = some (.int .i64 yh) ∧ W.cell? ⟨w.heap.size + 1, 1, none⟩ = some (.int .i64 yt) ∧ W.cell? ⟨w.heap.size + 1, 2, none⟩ = some (.string ya) ∧ W.cell? ⟨w.heap.size + 1, 3, none⟩ = some (.string yv) ∧ W.cell? ⟨w.heap.size + 1, 4, none⟩ = some (.string yn) ∧ W.cell? ⟨w.heap.size + 1, 5, none⟩ = some (.string yd) ∧ W.cell? ⟨w.heap.size + 1, 6, none⟩ = some (.slice p l.length cap)) ∧ (W.cell? ⟨w.heap.size + 2, 0, none⟩ = some (.int .i64 h) ∧ W.cell? ⟨w.heap.size + 2, 1, none⟩ = some (.int .i64 t) ∧ W.cell? ⟨w.heap.size + 2, 2, none⟩ = some (.string aa) ∧ W.cell? ⟨w.heap.size + 2, 3, none⟩ = some (.string v) ∧ W.cell? ⟨w.heap.size + 2, 4, none⟩ = some (.string n) ∧ W.cell? ⟨w.heap.size + 2, 5, none⟩ = some (.string d)) ∧ (W.cell? ⟨w.heap.size + 3, 0, none⟩ = some (.int .i64 ch) ∧ W.cell? ⟨w.heap.size + 3, 1, none⟩ = some (.int .i64 cr) ∧ W.cell? ⟨w.heap.size + 3, 2, none⟩ = some (.string ci) ∧ W.cell? ⟨w.heap.size + 3, 3, none⟩ = some (.slice b cl.length cb)) ∧ (W.cell? ⟨w.heap.size + 4, 0, none⟩ = some (.int .i64 0) ∧ W.cell? ⟨w.heap.size + 4, 1, none⟩ = some (.int .i64 0) ∧ W.cell? ⟨w.heap.size + 4, 2, none⟩ = some (.string ⟨#[]⟩) ∧ W.cell? ⟨w.heap.size + 4, 3, none⟩ = some (.string ⟨#[]⟩) ∧ W.cell? ⟨w.heap.size + 4, 4, none⟩ = some (.string ⟨#[]⟩) ∧ W.cell? ⟨w.heap.size + 4, 5, none⟩ = some (.string ⟨#[]⟩) ∧ W.cell? ⟨w.heap.size + 4, 6, none⟩ = some (.slice none 0 0)) ∧ (W.frozen? ⟨w.heap.size + 4, 0, none⟩ = false ∧ W.frozen? ⟨w.heap.size + 4, 1, none⟩ = false ∧ W.frozen? ⟨w.heap.size + 4, 2, none⟩ = false ∧ W.frozen? ⟨w.heap.size + 4, 3, none⟩ = false ∧ W.frozen? ⟨w.heap.size + 4, 4, none⟩ = false ∧ W.frozen? ⟨w.heap.size + 4, 5, none⟩ = false ∧ W.frozen? ⟨w.heap.size + 4, 6, none⟩ = false) := fun W h => ⟨⟨h.1.cell 0 rfl, h.1.cell 1 rfl⟩, ⟨h.2.1.cell 0 rfl, h.2.1.cell 1 rfl, h.2.1.cell 2 rfl, h.2.1.cell 3 rfl, h.2.1.cell 4 rfl, h.2.1.cell 5 rfl, h.2.1.cell 6 rfl⟩, ⟨h.2.2.1.cell 0 rfl, h.2.2.1.cell 1 rfl, h.2.2.1.cell 2 rfl, h.2.2.1.cell 3 rfl, h.2.2.1.cell 4 rfl, h.2.2.1.cell 5 rfl⟩, ⟨h.2.2.2.1.cell 0 rfl, h.2.2.2.1.cell 1 rfl, h.2.2.2.1.cell 2 rfl, h.2.2.2.1.cell 3 rfl⟩, ⟨h.2.2.2.2.1.cell 0 rfl, h.2.2.2.2.1.cell 1 rfl, h.2.2.2.2.1.cell 2 rfl, h.2.2.2.2.1.cell 3 rfl, h.2.2.2.2.1.cell 4 rfl, h.2.2.2.2.1.cell 5 rfl, h.2.2.2.2.1.cell 6 rfl⟩, ⟨h.2.2.2.2.1.frozen 0, h.2.2.2.2.1.frozen 1, h.2.2.2.2.1.frozen 2, h.2.2.2.2.1.frozen 3, h.2.2.2.2.1.frozen 4, h.2.2.2.2.1.frozen 5, h.2.2.2.2.1.frozen 6⟩⟩
    obtain ⟨w0, hw0⟩ : ∃ W, ((((w.alloc (Obj.cells #[Value.int .i64 tp, Value.int .i64 ts] 25)).alloc (Obj.cells #[Value.int .i64 yh, Value.int .i64 yt, Value.string ya, Value.string yv, Value.string yn, Value.string yd, Value.slice p l.length cap] 30)).alloc (Obj.cells #[Value.int .i64 h, Value.int .i64 t, Value.string aa, Value.string v, Value.string n, Value.string d] 27)).alloc (Obj.cells #[Value.int .i64 ch, Value.int .i64 cr, Value.string ci, Value.slice b cl.length cb] 33)).alloc (Obj.cells #[Value.int .i64 0, Value.int .i64 0, Value.string ⟨#[]⟩, Value.string ⟨#[]⟩, Value.string ⟨#[]⟩, Value.string ⟨#[]⟩, Value.slice none 0 0] 30) = W := ⟨_, rfl⟩
    have HA0 : Hid (Fiv w w0 ⟨tp, ts⟩ ⟨yh, yt, ya, yv, yn, yd⟩ (.slice p l.length cap) ⟨h, t, aa, v, n, d⟩ ⟨ch, cr, ci, cl⟩ b cb) := by rw [← hw0]; exact H0.out
    clear H0
    obtain ⟨⟨at0, at1⟩, ⟨ay0, ay1, ay2, ay3, ay4, ay5, ay6⟩, ⟨ax0, ax1, ax2, ax3, ax4, ax5⟩, ⟨ac0, ac1, ac2, ac3⟩, ⟨az0, az1, az2, az3, az4, az5, az6⟩, ⟨fz0, fz1, fz2, fz3, fz4, fz5, fz6⟩⟩ := hflat _ HA0.out
    go_enter Tryz.func8, Tryz.ntmps8
    go_wp2_with fail
    try rw [hw0]
    refine (k1 _).mono ?_
    rintro e w1 ⟨rfl, bb⟩
    have HA1 : Hid (Fiv w w1 ⟨tp, ts⟩ ⟨yh, yt, ya, yv, yn, yd⟩ (.slice p l.length cap) ⟨h, t, aa, v, n, d⟩ ⟨ch, cr, ci, cl⟩ b cb) := HA0.out.step bb
    clear at0 at1 ay0 ay1 ay2 ay3 ay4 ay5 ay6 ax0 ax1 ax2 ax3 ax4 ax5 ac0 ac1 ac2 ac3 az0 az1 az2 az3 az4 az5 az6 fz0 fz1 fz2 fz3 fz4 fz5 fz6 bb HA0 hw0
    obtain ⟨⟨at0, at1⟩, ⟨ay0, ay1, ay2, ay3, ay4, ay5, ay6⟩, ⟨ax0, ax1, ax2, ax3, ax4, ax5⟩, ⟨ac0, ac1, ac2, ac3⟩, ⟨az0, az1, az2, az3, az4, az5, az6⟩, ⟨fz0, fz1, fz2, fz3, fz4, fz5, fz6⟩⟩ := hflat _ HA1.out
    go_wp2_with fail
    refine (kA _ (HL.out.below HA1.out.2.2.2.2.2)).mono ?_
    rintro e w2 ⟨u, cu, rfl, HO, bb⟩
    have HA2 : Hid (Fiv w w2 ⟨tp, ts⟩ ⟨yh, yt, ya, yv, yn, yd⟩ (.slice p l.length cap) ⟨h, t, aa, v, n, d⟩ ⟨ch, cr, ci, cl⟩ b cb) := HA1.out.step bb
    clear at0 at1 ay0 ay1 ay2 ay3 ay4 ay5 ay6 ax0 ax1 ax2 ax3 ax4 ax5 ac0 ac1 ac2 ac3 az0 az1 az2 az3 az4 az5 az6 fz0 fz1 fz2 fz3 fz4 fz5 fz6 bb
    obtain ⟨⟨at0, at1⟩, ⟨ay0, ay1, ay2, ay3, ay4, ay5, ay6⟩, ⟨ax0, ax1, ax2, ax3, ax4, ax5⟩, ⟨ac0, ac1, ac2, ac3⟩, ⟨az0, az1, az2, az3, az4, az5, az6⟩, ⟨fz0, fz1, fz2, fz3, fz4, fz5, fz6⟩⟩ := hflat _ HA2.out
    obtain ⟨w9, hw9⟩ : ∃ W, (((((((w2).setCell ⟨w.heap.size + 4, 0, none⟩ (.int .i64 yh)).setCell ⟨w.heap.size + 4, 1, none⟩ (.int .i64 yt)).setCell ⟨w.heap.size + 4, 2, none⟩ (.string ya)).setCell ⟨w.heap.size + 4, 3, none⟩ (.string yv)).setCell ⟨w.heap.size + 4, 4, none⟩ (.string yn)).setCell ⟨w.heap.size + 4, 5, none⟩ (.string yd)).setCell ⟨w.heap.size + 4, 6, none⟩ (.slice u l.length cu) = W := ⟨_, rfl⟩
    have hsz : w.heap.size + 4 < w1.heap.size := HA1.out.2.2.2.2.1.lt
    have HZ : Hid (Blk w9 (w.heap.size + 4) [.int .i64 yh, .int .i64 yt, .string ya, .string yv, .string yn, .string yd, .slice u l.length cu] 30) := by rw [← hw9]; exact (((((((HA2.out.2.2.2.2.1).set 0 _).set 1 _).set 2 _).set 3 _).set 4 _).set 5 _).set 6 _
    have HF : Below w.heap.size w w9 := by rw [← hw9]; exact (((((((HA2.out.2.2.2.2.2).setCell (show w.heap.size ≤ w.heap.size + 4 by omega) _).setCell (show w.heap.size ≤ w.heap.size + 4 by omega) _).setCell (show w.heap.size ≤ w.heap.size + 4 by omega) _).setCell (show w.heap.size ≤ w.heap.size + 4 by omega) _).setCell (show w.heap.size ≤ w.heap.size + 4 by omega) _).setCell (show w.heap.size ≤ w.heap.size + 4 by omega) _).setCell (show w.heap.size ≤ w.heap.size + 4 by omega) _
    have HO9 : Hid (OwnV w9 w.heap.size (.slice u l.length cu) l) := by rw [← hw9]; exact own_low (ownsRow_setCell_below (ownsRow_setCell_below (ownsRow_setCell_below (ownsRow_setCell_below (ownsRow_setCell_below (ownsRow_setCell_below (ownsRow_setCell_below HO.out (show w.heap.size + 4 < w1.heap.size from hsz) _) (show w.heap.size + 4 < w1.heap.size from hsz) _) (show w.heap.size + 4 < w1.heap.size from hsz) _) (show w.heap.size + 4 < w1.heap.size from hsz) _) (show w.heap.size + 4 < w1.heap.size from hsz) _) (show w.heap.size + 4 < w1.heap.size from hsz) _) (show w.heap.size + 4 < w1.heap.size from hsz) _) (by omega)
    have r0 := HZ.out.cell 0 rfl
    have r1 := HZ.out.cell 1 rfl
    have r2 := HZ.out.cell 2 rfl
    have r3 := HZ.out.cell 3 rfl
    have r4 := HZ.out.cell 4 rfl
    have r5 := HZ.out.cell 5 rfl
    have r6 := HZ.out.cell 6 rfl
    go_wp2
    try rw [hw9]
    refine bodyPost_ret (v := .tuple #[.agg #[.int .i64 yh, .int .i64 yt, .string ya, .string yv, .string yn, .string yd, .slice u l.length cu], .int .i64 1]) ?_ rfl ⟨_, _, rfl, HO9, HF⟩
    skip
    simp [results, Tryz.results8, go_sem, r0, r1, r2, r3, r4, r5, r6]
  · have hRR := HR false true false true rfl rfl rfl rfl
    have hN1 := HB hRR
    subst hN1
    rw [HA 1 (by decide)]
    simp only
    clear HR HB HA HX hRR kX kW h1 h2 h3 h4
    obtain ⟨tp, ts⟩ := t
    obtain ⟨yh, yt, ya, yv, yn, yd⟩ := y
    obtain ⟨h, t, aa, v, n, d⟩ := x
    obtain ⟨ch, cr, ci, cl⟩ := c
    unfold trV aV hV cV at *
    unfold fivW trcs acs hcs ccs at H0
    simp only at *
    have hflat : ∀ W, Fiv w W ⟨tp, ts⟩ ⟨yh, yt, ya, yv, yn, yd⟩ (.slice p l.length cap) ⟨h, t, aa, v, n, d⟩ ⟨ch, cr, ci, cl⟩ b cb → (W.cell? ⟨w.heap.size, 0, none⟩ = some (.int .i64 tp) ∧ W.cell? ⟨w.heap.size, 1, none⟩ = some (.int .i64 ts)) ∧ (W.cell? ⟨w.heap.size + 1, 0, none⟩ = some (.int .i64 yh) ∧ W.cell? ⟨w.heap.size + 1, 1, none⟩ = some (.int .i64 yt) ∧ W.cell? ⟨w.heap.size + 1, 2, none⟩ = some (.string ya) ∧ W.cell? ⟨w.heap.size + 1, 3, none⟩ = some (.string yv) ∧ W.cell? ⟨w.heap.size + 1, 4, none⟩ = some (.string yn) ∧ W.cell? ⟨w.heap.size + 1, 5, none⟩ = some (.string yd) ∧ W.cell? ⟨w.heap.size + 1, 6, none⟩ = some (.slice p l.length cap)) ∧ (W.cell? ⟨w.heap.size + 2, 0, none⟩ = some (.int .i64 h) ∧ W.cell? ⟨w.heap.size + 2, 1, none⟩ = some (.int .i64 t) ∧ W.cell? ⟨w.heap.size + 2, 2, none⟩ = some (.string aa) ∧ W.cell? ⟨w.heap.size + 2, 3, none⟩ = some (.string v) ∧ W.cell? ⟨w.heap.size + 2, 4, none⟩ = some (.string n) ∧ W.cell? ⟨w.heap.size + 2, 5, none⟩ = some (.string d)) ∧ (W.cell? ⟨w.heap.size + 3, 0, none⟩ = some (.int .i64 ch) ∧ W.cell? ⟨w.heap.size + 3, 1, none⟩ = some (.int .i64 cr) ∧ W.cell? ⟨w.heap.size + 3, 2, none⟩ = some (.string ci) ∧ W.cell? ⟨w.heap.size + 3, 3, none⟩ = some (.slice b cl.length cb)) ∧ (W.cell? ⟨w.heap.size + 4, 0, none⟩ = some (.int .i64 0) ∧ W.cell? ⟨w.heap.size + 4, 1, none⟩ = some (.int .i64 0) ∧ W.cell? ⟨w.heap.size + 4, 2, none⟩ = some (.string ⟨#[]⟩) ∧ W.cell? ⟨w.heap.size + 4, 3, none⟩ = some (.string ⟨#[]⟩) ∧ W.cell? ⟨w.heap.size + 4, 4, none⟩ = some (.string ⟨#[]⟩) ∧ W.cell? ⟨w.heap.size + 4, 5, none⟩ = some (.string ⟨#[]⟩) ∧ W.cell? ⟨w.heap.size + 4, 6, none⟩ = some (.slice none 0 0)) ∧ (W.frozen? ⟨w.heap.size + 4, 0, none⟩ = false ∧ W.frozen? ⟨w.heap.size + 4, 1, none⟩ = false ∧ W.frozen? ⟨w.heap.size + 4, 2, none⟩ = false ∧ W.frozen? ⟨w.heap.size + 4, 3, none⟩ = false ∧ W.frozen? ⟨w.heap.size + 4, 4, none⟩ = false ∧ W.frozen? ⟨w.heap.size + 4, 5, none⟩ = false ∧ W.frozen? ⟨w.heap.size + 4, 6, none⟩ = false) := fun W h => ⟨⟨h.1.cell 0 rfl, h.1.cell 1 rfl⟩, ⟨h.2.1.cell 0 rfl, h.2.1.cell 1 rfl, h.2.1.cell 2 rfl, h.2.1.cell 3 rfl, h.2.1.cell 4 rfl, h.2.1.cell 5 rfl, h.2.1.cell 6 rfl⟩, ⟨h.2.2.1.cell 0 rfl, h.2.2.1.cell 1 rfl, h.2.2.1.cell 2 rfl, h.2.2.1.cell 3 rfl, h.2.2.1.cell 4 rfl, h.2.2.1.cell 5 rfl⟩, ⟨h.2.2.2.1.cell 0 rfl, h.2.2.2.1.cell 1 rfl, h.2.2.2.1.cell 2 rfl, h.2.2.2.1.cell 3 rfl⟩, ⟨h.2.2.2.2.1.cell 0 rfl, h.2.2.2.2.1.cell 1 rfl, h.2.2.2.2.1.cell 2 rfl, h.2.2.2.2.1.cell 3 rfl, h.2.2.2.2.1.cell 4 rfl, h.2.2.2.2.1.cell 5 rfl, h.2.2.2.2.1.cell 6 rfl⟩, ⟨h.2.2.2.2.1.frozen 0, h.2.2.2.2.1.frozen 1, h.2.2.2.2.1.frozen 2, h.2.2.2.2.1.frozen 3, h.2.2.2.2.1.frozen 4, h.2.2.2.2.1.frozen 5, h.2.2.2.2.1.frozen 6⟩⟩
    obtain ⟨w0, hw0⟩ : ∃ W, ((((w.alloc (Obj.cells #[Value.int .i64 tp, Value.int .i64 ts] 25)).alloc (Obj.cells #[Value.int .i64 yh, Value.int .i64 yt, Value.string ya, Value.string yv, Value.string yn, Value.string yd, Value.slice p l.length cap] 30)).alloc (Obj.cells #[Value.int .i64 h, Value.int .i64 t, Value.string aa, Value.string v, Value.string n, Value.string d] 27)).alloc (Obj.cells #[Value.int .i64 ch, Value.int .i64 cr, Value.string ci, Value.slice b cl.length cb] 33)).alloc (Obj.cells #[Value.int .i64 0, Value.int .i64 0, Value.string ⟨#[]⟩, Value.string ⟨#[]⟩, Value.string ⟨#[]⟩, Value.string ⟨#[]⟩, Value.slice none 0 0] 30) = W := ⟨_, rfl⟩
    have HA0 : Hid (Fiv w w0 ⟨tp, ts⟩ ⟨yh, yt, ya, yv, yn, yd⟩ (.slice p l.length cap) ⟨h, t, aa, v, n, d⟩ ⟨ch, cr, ci, cl⟩ b cb) := by rw [← hw0]; exact H0.out
    clear H0
    obtain ⟨⟨at0, at1⟩, ⟨ay0, ay1, ay2, ay3, ay4, ay5, ay6⟩, ⟨ax0, ax1, ax2, ax3, ax4, ax5⟩, ⟨ac0, ac1, ac2, ac3⟩, ⟨az0, az1, az2, az3, az4, az5, az6⟩, ⟨fz0, fz1, fz2, fz3, fz4, fz5, fz6⟩⟩ := hflat _ HA0.out
    go_enter Tryz.func8, Tryz.ntmps8
    go_wp2_with fail
    try rw [hw0]
    refine (k1 _).mono ?_
    rintro e w1 ⟨rfl, bb⟩
    have HA1 : Hid (Fiv w w1 ⟨tp, ts⟩ ⟨yh, yt, ya, yv, yn, yd⟩ (.slice p l.length cap) ⟨h, t, aa, v, n, d⟩ ⟨ch, cr, ci, cl⟩ b cb) := HA0.out.step bb
    clear at0 at1 ay0 ay1 ay2 ay3 ay4 ay5 ay6 ax0 ax1 ax2 ax3 ax4 ax5 ac0 ac1 ac2 ac3 az0 az1 az2 az3 az4 az5 az6 fz0 fz1 fz2 fz3 fz4 fz5 fz6 bb HA0 hw0
    obtain ⟨⟨at0, at1⟩, ⟨ay0, ay1, ay2, ay3, ay4, ay5, ay6⟩, ⟨ax0, ax1, ax2, ax3, ax4, ax5⟩, ⟨ac0, ac1, ac2, ac3⟩, ⟨az0, az1, az2, az3, az4, az5, az6⟩, ⟨fz0, fz1, fz2, fz3, fz4, fz5, fz6⟩⟩ := hflat _ HA1.out
    go_wp2_with fail
    refine (kA _ (HL.out.below HA1.out.2.2.2.2.2)).mono ?_
    rintro e w2 ⟨u, cu, rfl, HO, bb⟩
    have HA2 : Hid (Fiv w w2 ⟨tp, ts⟩ ⟨yh, yt, ya, yv, yn, yd⟩ (.slice p l.length cap) ⟨h, t, aa, v, n, d⟩ ⟨ch, cr, ci, cl⟩ b cb) := HA1.out.step bb
    clear at0 at1 ay0 ay1 ay2 ay3 ay4 ay5 ay6 ax0 ax1 ax2 ax3 ax4 ax5 ac0 ac1 ac2 ac3 az0 az1 az2 az3 az4 az5 az6 fz0 fz1 fz2 fz3 fz4 fz5 fz6 bb
    obtain ⟨⟨at0, at1⟩, ⟨ay0, ay1, ay2, ay3, ay4, ay5, ay6⟩, ⟨ax0, ax1, ax2, ax3, ax4, ax5⟩, ⟨ac0, ac1, ac2, ac3⟩, ⟨az0, az1, az2, az3, az4, az5, az6⟩, ⟨fz0, fz1, fz2, fz3, fz4, fz5, fz6⟩⟩ := hflat _ HA2.out
    obtain ⟨w9, hw9⟩ : ∃ W, (((((((w2).setCell ⟨w.heap.size + 4, 0, none⟩ (.int .i64 yh)).setCell ⟨w.heap.size + 4, 1, none⟩ (.int .i64 yt)).setCell ⟨w.heap.size + 4, 2, none⟩ (.string ya)).setCell ⟨w.heap.size + 4, 3, none⟩ (.string yv)).setCell ⟨w.heap.size + 4, 4, none⟩ (.string yn)).setCell ⟨w.heap.size + 4, 5, none⟩ (.string yd)).setCell ⟨w.heap.size + 4, 6, none⟩ (.slice u l.length cu) = W := ⟨_, rfl⟩
    have hsz : w.heap.size + 4 < w1.heap.size := HA1.out.2.2.2.2.1.lt
    have HZ : Hid (Blk w9 (w.heap.size + 4) [.int .i64 yh, .int .i64 yt, .string ya, .string yv, .string yn, .string yd, .slice u l.length cu] 30) := by rw [← hw9]; exact (((((((HA2.out.2.2.2.2.1).set 0 _).set 1 _).set 2 _).set 3 _).set 4 _).set 5 _).set 6 _
    have HF : Below w.heap.size w w9 := by rw [← hw9]; exact (((((((HA2.out.2.2.2.2.2).setCell (show w.heap.size ≤ w.heap.size + 4 by omega) _).setCell (show w.heap.size ≤ w.heap.size + 4 by omega) _).setCell (show w.heap.size ≤ w.heap.size + 4 by omega) _).setCell (show w.heap.size ≤ w.heap.size + 4 by omega) _).setCell (show w.heap.size ≤ w.heap.size + 4 by omega) _).setCell (show w.heap.size ≤ w.heap.size + 4 by omega) _).setCell (show w.heap.size ≤ w.heap.size + 4 by omega) _
    have HO9 : Hid (OwnV w9 w.heap.size (.slice u l.length cu) l) := by rw [← hw9]; exact own_low (ownsRow_setCell_below (ownsRow_setCell_below (ownsRow_setCell_below (ownsRow_setCell_below (ownsRow_setCell_below (ownsRow_setCell_below (ownsRow_setCell_below HO.out (show w.heap.size + 4 < w1.heap.size from hsz) _) (show w.heap.size + 4 < w1.heap.size from hsz) _) (show w.heap.size + 4 < w1.heap.size from hsz) _) (show w.heap.size + 4 < w1.heap.size from hsz) _) (show w.heap.size + 4 < w1.heap.size from hsz) _) (show w.heap.size + 4 < w1.heap.size from hsz) _) (show w.heap.size + 4 < w1.heap.size from hsz) _) (by omega)
    have r0 := HZ.out.cell 0 rfl
    have r1 := HZ.out.cell 1 rfl
    have r2 := HZ.out.cell 2 rfl
    have r3 := HZ.out.cell 3 rfl
    have r4 := HZ.out.cell 4 rfl
    have r5 := HZ.out.cell 5 rfl
    have r6 := HZ.out.cell 6 rfl
    go_wp2
    try rw [hw9]
    refine bodyPost_ret (v := .tuple #[.agg #[.int .i64 yh, .int .i64 yt, .string ya, .string yv, .string yn, .string yd, .slice u l.length cu], .int .i64 1]) ?_ rfl ⟨_, _, rfl, HO9, HF⟩
    skip
    simp [results, Tryz.results8, go_sem, r0, r1, r2, r3, r4, r5, r6]
  · have hRR := HR false true true false rfl rfl rfl rfl
    have hN1 := HB hRR
    subst hN1
    rw [HA 1 (by decide)]
    simp only
    clear HR HB HA HX hRR kX kW h1 h2 h3 h4
    obtain ⟨tp, ts⟩ := t
    obtain ⟨yh, yt, ya, yv, yn, yd⟩ := y
    obtain ⟨h, t, aa, v, n, d⟩ := x
    obtain ⟨ch, cr, ci, cl⟩ := c
    unfold trV aV hV cV at *
    unfold fivW trcs acs hcs ccs at H0
    simp only at *
    have hflat : ∀ W, Fiv w W ⟨tp, ts⟩ ⟨yh, yt, ya, yv, yn, yd⟩ (.slice p l.length cap) ⟨h, t, aa, v, n, d⟩ ⟨ch, cr, ci, cl⟩ b cb → (W.cell? ⟨w.heap.size, 0, none⟩ = some (.int .i64 tp) ∧ W.cell? ⟨w.heap.size, 1, none⟩ = some (.int .i64 ts)) ∧ (W.cell? ⟨w.heap.size + 1, 0, none⟩ = some (.int .i64 yh) ∧ W.cell? ⟨w.heap.size + 1, 1, none⟩ = some (.int .i64 yt) ∧ W.cell? ⟨w.heap.size + 1, 2, none⟩ = some (.string ya) ∧ W.cell? ⟨w.heap.size + 1, 3, none⟩ = some (.string yv) ∧ W.cell? ⟨w.heap.size + 1, 4, none⟩ = some (.string yn) ∧ W.cell? ⟨w.heap.size + 1, 5, none⟩ = some (.string yd) ∧ W.cell? ⟨w.heap.size + 1, 6, none⟩ = some (.slice p l.length cap)) ∧ (W.cell? ⟨w.heap.size + 2, 0, none⟩ = some (.int .i64 h) ∧ W.cell? ⟨w.heap.size + 2, 1, none⟩ = some (.int .i64 t) ∧ W.cell? ⟨w.heap.size + 2, 2, none⟩ = some (.string aa) ∧ W.cell? ⟨w.heap.size + 2, 3, none⟩ = some (.string v) ∧ W.cell? ⟨w.heap.size + 2, 4, none⟩ = some (.string n) ∧ W.cell? ⟨w.heap.size + 2, 5, none⟩ = some (.string d)) ∧ (W.cell? ⟨w.heap.size + 3, 0, none⟩ = some (.int .i64 ch) ∧ W.cell? ⟨w.heap.size + 3, 1, none⟩ = some (.int .i64 cr) ∧ W.cell? ⟨w.heap.size + 3, 2, none⟩ = some (.string ci) ∧ W.cell? ⟨w.heap.size + 3, 3, none⟩ = some (.slice b cl.length cb)) ∧ (W.cell? ⟨w.heap.size + 4, 0, none⟩ = some (.int .i64 0) ∧ W.cell? ⟨w.heap.size + 4, 1, none⟩ = some (.int .i64 0) ∧ W.cell? ⟨w.heap.size + 4, 2, none⟩ = some (.string ⟨#[]⟩) ∧ W.cell? ⟨w.heap.size + 4, 3, none⟩ = some (.string ⟨#[]⟩) ∧ W.cell? ⟨w.heap.size + 4, 4, none⟩ = some (.string ⟨#[]⟩) ∧ W.cell? ⟨w.heap.size + 4, 5, none⟩ = some (.string ⟨#[]⟩) ∧ W.cell? ⟨w.heap.size + 4, 6, none⟩ = some (.slice none 0 0)) ∧ (W.frozen? ⟨w.heap.size + 4, 0, none⟩ = false ∧ W.frozen? ⟨w.heap.size + 4, 1, none⟩ = false ∧ W.frozen? ⟨w.heap.size + 4, 2, none⟩ = false ∧ W.frozen? ⟨w.heap.size + 4, 3, none⟩ = false ∧ W.frozen? ⟨w.heap.size + 4, 4, none⟩ = false ∧ W.frozen? ⟨w.heap.size + 4, 5, none⟩ = false ∧ W.frozen? ⟨w.heap.size + 4, 6, none⟩ = false) := fun W h => ⟨⟨h.1.cell 0 rfl, h.1.cell 1 rfl⟩, ⟨h.2.1.cell 0 rfl, h.2.1.cell 1 rfl, h.2.1.cell 2 rfl, h.2.1.cell 3 rfl, h.2.1.cell 4 rfl, h.2.1.cell 5 rfl, h.2.1.cell 6 rfl⟩, ⟨h.2.2.1.cell 0 rfl, h.2.2.1.cell 1 rfl, h.2.2.1.cell 2 rfl, h.2.2.1.cell 3 rfl, h.2.2.1.cell 4 rfl, h.2.2.1.cell 5 rfl⟩, ⟨h.2.2.2.1.cell 0 rfl, h.2.2.2.1.cell 1 rfl, h.2.2.2.1.cell 2 rfl, h.2.2.2.1.cell 3 rfl⟩, ⟨h.2.2.2.2.1.cell 0 rfl, h.2.2.2.2.1.cell 1 rfl, h.2.2.2.2.1.cell 2 rfl, h.2.2.2.2.1.cell 3 rfl, h.2.2.2.2.1.cell 4 rfl, h.2.2.2.2.1.cell 5 rfl, h.2.2.2.2.1.cell 6 rfl⟩, ⟨h.2.2.2.2.1.frozen 0, h.2.2.2.2.1.frozen 1, h.2.2.2.2.1.frozen 2, h.2.2.2.2.1.frozen 3, h.2.2.2.2.1.frozen 4, h.2.2.2.2.1.frozen 5, h.2.2.2.2.1.frozen 6⟩⟩
    obtain ⟨w0, hw0⟩ : ∃ W, ((((w.alloc (Obj.cells #[Value.int .i64 tp, Value.int .i64 ts] 25)).alloc (Obj.cells #[Value.int .i64 yh, Value.int .i64 yt, Value.string ya, Value.string yv, Value.string yn, Value.string yd, Value.slice p l.length cap] 30)).alloc (Obj.cells #[Value.int .i64 h, Value.int .i64 t, Value.string aa, Value.string v, Value.string n, Value.string d] 27)).alloc (Obj.cells #[Value.int .i64 ch, Value.int .i64 cr, Value.string ci, Value.slice b cl.length cb] 33)).alloc (Obj.cells #[Value.int .i64 0, Value.int .i64 0, Value.string ⟨#[]⟩, Value.string ⟨#[]⟩, Value.string ⟨#[]⟩, Value.string ⟨#[]⟩, Value.slice none 0 0] 30) = W := ⟨_, rfl⟩
    have HA0 : Hid (Fiv w w0 ⟨tp, ts⟩ ⟨yh, yt, ya, yv, yn, yd⟩ (.slice p l.length cap) ⟨h, t, aa, v, n, d⟩ ⟨ch, cr, ci, cl⟩ b cb) := by rw [← hw0]; exact H0.out
    clear H0
    obtain ⟨⟨at0, at1⟩, ⟨ay0, ay1, ay2, ay3, ay4, ay5, ay6⟩, ⟨ax0, ax1, ax2, ax3, ax4, ax5⟩, ⟨ac0, ac1, ac2, ac3⟩, ⟨az0, az1, az2, az3, az4, az5, az6⟩, ⟨fz0, fz1, fz2, fz3, fz4, fz5, fz6⟩⟩ := hflat _ HA0.out
    go_enter Tryz.func8, Tryz.ntmps8
    go_wp2_with fail
    try rw [hw0]
    refine (k1 _).mono ?_
    rintro e w1 ⟨rfl, bb⟩
    have HA1 : Hid (Fiv w w1 ⟨tp, ts⟩ ⟨yh, yt, ya, yv, yn, yd⟩ (.slice p l.length cap) ⟨h, t, aa, v, n, d⟩ ⟨ch, cr, ci, cl⟩ b cb) := HA0.out.step bb
    clear at0 at1 ay0 ay1 ay2 ay3 ay4 ay5 ay6 ax0 ax1 ax2 ax3 ax4 ax5 ac0 ac1 ac2 ac3 az0 az1 az2 az3 az4 az5 az6 fz0 fz1 fz2 fz3 fz4 fz5 fz6 bb HA0 hw0
    obtain ⟨⟨at0, at1⟩, ⟨ay0, ay1, ay2, ay3, ay4, ay5, ay6⟩, ⟨ax0, ax1, ax2, ax3, ax4, ax5⟩, ⟨ac0, ac1, ac2, ac3⟩, ⟨az0, az1, az2, az3, az4, az5, az6⟩, ⟨fz0, fz1, fz2, fz3, fz4, fz5, fz6⟩⟩ := hflat _ HA1.out
    go_wp2_with fail
    refine (kA _ (HL.out.below HA1.out.2.2.2.2.2)).mono ?_
    rintro e w2 ⟨u, cu, rfl, HO, bb⟩
    have HA2 : Hid (Fiv w w2 ⟨tp, ts⟩ ⟨yh, yt, ya, yv, yn, yd⟩ (.slice p l.length cap) ⟨h, t, aa, v, n, d⟩ ⟨ch, cr, ci, cl⟩ b cb) := HA1.out.step bb
    clear at0 at1 ay0 ay1 ay2 ay3 ay4 ay5 ay6 ax0 ax1 ax2 ax3 ax4 ax5 ac0 ac1 ac2 ac3 az0 az1 az2 az3 az4 az5 az6 fz0 fz1 fz2 fz3 fz4 fz5 fz6 bb
    obtain ⟨⟨at0, at1⟩, ⟨ay0, ay1, ay2, ay3, ay4, ay5, ay6⟩, ⟨ax0, ax1, ax2, ax3, ax4, ax5⟩, ⟨ac0, ac1, ac2, ac3⟩, ⟨az0, az1, az2, az3, az4, az5, az6⟩, ⟨fz0, fz1, fz2, fz3, fz4, fz5, fz6⟩⟩ := hflat _ HA2.out
    obtain ⟨w9, hw9⟩ : ∃ W, (((((((w2).setCell ⟨w.heap.size + 4, 0, none⟩ (.int .i64 yh)).setCell ⟨w.heap.size + 4, 1, none⟩ (.int .i64 yt)).setCell ⟨w.heap.size + 4, 2, none⟩ (.string ya)).setCell ⟨w.heap.size + 4, 3, none⟩ (.string yv)).setCell ⟨w.heap.size + 4, 4, none⟩ (.string yn)).setCell ⟨w.heap.size + 4, 5, none⟩ (.string yd)).setCell ⟨w.heap.size + 4, 6, none⟩ (.slice u l.length cu) = W := ⟨_, rfl⟩
    have hsz : w.heap.size + 4 < w1.heap.size := HA1.out.2.2.2.2.1.lt
    have HZ : Hid (Blk w9 (w.heap.size + 4) [.int .i64 yh, .int .i64 yt, .string ya, .string yv, .string yn, .string yd, .slice u l.length cu] 30) := by rw [← hw9]; exact (((((((HA2.out.2.2.2.2.1).set 0 _).set 1 _).set 2 _).set 3 _).set 4 _).set 5 _).set 6 _
    have HF : Below w.heap.size w w9 := by rw [← hw9]; exact (((((((HA2.out.2.2.2.2.2).setCell (show w.heap.size ≤ w.heap.size + 4 by omega) _).setCell (show w.heap.size ≤ w.heap.size + 4 by omega) _).setCell (show w.heap.size ≤ w.heap.size + 4 by omega) _).setCell (show w.heap.size ≤ w.heap.size + 4 by omega) _).setCell (show w.heap.size ≤ w.heap.size + 4 by omega) _).setCell (show w.heap.size ≤ w.heap.size + 4 by omega) _).setCell (show w.heap.size ≤ w.heap.size + 4 by omega) _
    have HO9 : Hid (OwnV w9 w.heap.size (.slice u l.length cu) l) := by rw [← hw9]; exact own_low (ownsRow_setCell_below (ownsRow_setCell_below (ownsRow_setCell_below (ownsRow_setCell_below (ownsRow_setCell_below (ownsRow_setCell_below (ownsRow_setCell_below HO.out (show w.heap.size + 4 < w1.heap.size from hsz) _) (show w.heap.size + 4 < w1.heap.size from hsz) _) (show w.heap.size + 4 < w1.heap.size from hsz) _) (show w.heap.size + 4 < w1.heap.size from hsz) _) (show w.heap.size + 4 < w1.heap.size from hsz) _) (show w.heap.size + 4 < w1.heap.size from hsz) _) (show w.heap.size + 4 < w1.heap.size from hsz) _) (by omega)
    have r0 := HZ.out.cell 0 rfl
    have r1 := HZ.out.cell 1 rfl
    have r2 := HZ.out.cell 2 rfl
    have r3 := HZ.out.cell 3 rfl
    have r4 := HZ.out.cell 4 rfl
    have r5 := HZ.out.cell 5 rfl
    have r6 := HZ.out.cell 6 rfl
    go_wp2
    try rw [hw9]
    refine bodyPost_ret (v := .tuple #[.agg #[.int .i64 yh, .int .i64 yt, .string ya, .string yv, .string yn, .string yd, .slice u l.length cu], .int .i64 1]) ?_ rfl ⟨_, _, rfl, HO9, HF⟩
    skip
    simp [results, Tryz.results8, go_sem, r0, r1, r2, r3, r4, r5, r6]
  · have hRR := HR false true true true rfl rfl rfl rfl
    have hN1 := HB hRR
    subst hN1
    rw [HA 1 (by decide)]
    simp only
    clear HR HB HA HX hRR kX kW h1 h2 h3 h4
    obtain ⟨tp, ts⟩ := t
    obtain ⟨yh, yt, ya, yv, yn, yd⟩ := y
    obtain ⟨h, t, aa, v, n, d⟩ := x
    obtain ⟨ch, cr, ci, cl⟩ := c
    unfold trV aV hV cV at *
    unfold fivW trcs acs hcs ccs at H0
    simp only at *
    have hflat : ∀ W, Fiv w W ⟨tp, ts⟩ ⟨yh, yt, ya, yv, yn, yd⟩ (.slice p l.length cap) ⟨h, t, aa, v, n, d⟩ ⟨ch, cr, ci, cl⟩ b cb → (W.cell? ⟨w.heap.size, 0, none⟩ = some (.int .i64 tp) ∧ W.cell? ⟨w.heap.size, 1, none⟩ = some (.int .i64 ts)) ∧ (W.cell? ⟨w.heap.size + 1, 0, none⟩ = some (.int .i64 yh) ∧ W.cell? ⟨w.heap.size + 1, 1, none⟩ = some (.int .i64 yt) ∧ W.cell? ⟨w.heap.size + 1, 2, none⟩ = some (.string ya) ∧ W.cell? ⟨w.heap.size + 1, 3, none⟩ = some (.string yv) ∧ W.cell? ⟨w.heap.size + 1, 4, none⟩ = some (.string yn) ∧ W.cell? ⟨w.heap.size + 1, 5, none⟩ = some (.string yd) ∧ W.cell? ⟨w.heap.size + 1, 6, none⟩ = some (.slice p l.length cap)) ∧ (W.cell? ⟨w.heap.size + 2, 0, none⟩ = some (.int .i64 h) ∧ W.cell? ⟨w.heap.size + 2, 1, none⟩ = some (.int .i64 t) ∧ W.cell? ⟨w.heap.size + 2, 2, none⟩ = some (.string aa) ∧ W.cell? ⟨w.heap.size + 2, 3, none⟩ = some (.string v) ∧ W.cell? ⟨w.heap.size + 2, 4, none⟩ = some (.string n) ∧ W.cell? ⟨w.heap.size + 2, 5, none⟩ = some (.string d)) ∧ (W.cell? ⟨w.heap.size + 3, 0, none⟩ = some (.int .i64 ch) ∧ W.cell? ⟨w.heap.size + 3, 1, none⟩ = some (.int .i64 cr) ∧ W.cell? ⟨w.heap.size + 3, 2, none⟩ = some (.string ci) ∧ W.cell? ⟨w.heap.size + 3, 3, none⟩ = some (.slice b cl.length cb)) ∧ (W.cell? ⟨w.heap.size + 4, 0, none⟩ = some (.int .i64 0) ∧ W.cell? ⟨w.heap.size + 4, 1, none⟩ = some (.int .i64 0) ∧ W.cell? ⟨w.heap.size + 4, 2, none⟩ = some (.string ⟨#[]⟩) ∧ W.cell? ⟨w.heap.size + 4, 3, none⟩ = some (.string ⟨#[]⟩) ∧ W.cell? ⟨w.heap.size + 4, 4, none⟩ = some (.string ⟨#[]⟩) ∧ W.cell? ⟨w.heap.size + 4, 5, none⟩ = some (.string ⟨#[]⟩) ∧ W.cell? ⟨w.heap.size + 4, 6, none⟩ = some (.slice none 0 0)) ∧ (W.frozen? ⟨w.heap.size + 4, 0, none⟩ = false ∧ W.frozen? ⟨w.heap.size + 4, 1, none⟩ = false ∧ W.frozen? ⟨w.heap.size + 4, 2, none⟩ = false ∧ W.frozen? ⟨w.heap.size + 4, 3, none⟩ = false ∧ W.frozen? ⟨w.heap.size + 4, 4, none⟩ = false ∧ W.frozen? ⟨w.heap.size + 4, 5, none⟩ = false ∧ W.frozen? ⟨w.heap.size + 4, 6, none⟩ = false) := fun W h => ⟨⟨h.1.cell 0 rfl, h.1.cell 1 rfl⟩, ⟨h.2.1.cell 0 rfl, h.2.1.cell 1 rfl, h.2.1.cell 2 rfl, h.2.1.cell 3 rfl, h.2.1.cell 4 rfl, h.2.1.cell 5 rfl, h.2.1.cell 6 rfl⟩, ⟨h.2.2.1.cell 0 rfl, h.2.2.1.cell 1 rfl, h.2.2.1.cell 2 rfl, h.2.2.1.cell 3 rfl, h.2.2.1.cell 4 rfl, h.2.2.1.cell 5 rfl⟩, ⟨h.2.2.2.1.cell 0 rfl, h.2.2.2.1.cell 1 rfl, h.2.2.2.1.cell 2 rfl, h.2.2.2.1.cell 3 rfl⟩, ⟨h.2.2.2.2.1.cell 0 rfl, h.2.2.2.2.1.cell 1 rfl, h.2.2.2.2.1.cell 2 rfl, h.2.2.2.2.1.cell 3 rfl, h.2.2.2.2.1.cell 4 rfl, h.2.2.2.2.1.cell 5 rfl, h.2.2.2.2.1.cell 6 rfl⟩, ⟨h.2.2.2.2.1.frozen 0, h.2.2.2.2.1.frozen 1, h.2.2.2.2.1.frozen 2, h.2.2.2.2.1.frozen 3, h.2.2.2.2.1.frozen 4, h.2.2.2.2.1.frozen 5, h.2.2.2.2.1.frozen 6⟩⟩
    obtain ⟨w0, hw0⟩ : ∃ W, ((((w.alloc (Obj.cells #[Value.int .i64 tp, Value.int .i64 ts] 25)).alloc (Obj.cells #[Value.int .i64 yh, Value.int .i64 yt, Value.string ya, Value.string yv, Value.string yn, Value.string yd, Value.slice p l.length cap] 30)).alloc (Obj.cells #[Value.int .i64 h, Value.int .i64 t, Value.string aa, Value.string v, Value.string n, Value.string d] 27)).alloc (Obj.cells #[Value.int .i64 ch, Value.int .i64 cr, Value.string ci, Value.slice b cl.length cb] 33)).alloc (Obj.cells #[Value.int .i64 0, Value.int .i64 0, Value.string ⟨#[]⟩, Value.string ⟨#[]⟩, Value.string ⟨#[]⟩, Value.string ⟨#[]⟩, Value.slice none 0 0] 30) = W := ⟨_, rfl⟩
    have HA0 : Hid (Fiv w w0 ⟨tp, ts⟩ ⟨yh, yt, ya, yv, yn, yd⟩ (.slice p l.length cap) ⟨h, t, aa, v, n, d⟩ ⟨ch, cr, ci, cl⟩ b cb) := by rw [← hw0]; exact H0.out
    clear H0
    obtain ⟨⟨at0, at1⟩, ⟨ay0, ay1, ay2, ay3, ay4, ay5, ay6⟩, ⟨ax0, ax1, ax2, ax3, ax4, ax5⟩, ⟨ac0, ac1, ac2, ac3⟩, ⟨az0, az1, az2, az3, az4, az5, az6⟩, ⟨fz0, fz1, fz2, fz3, fz4, fz5, fz6⟩⟩ := hflat _ HA0.out
    go_enter Tryz.func8, Tryz.ntmps8
    go_wp2_with fail
    try rw [hw0]
    refine (k1 _).mono ?_
    rintro e w1 ⟨rfl, bb⟩
    have HA1 : Hid (Fiv w w1 ⟨tp, ts⟩ ⟨yh, yt, ya, yv, yn, yd⟩ (.slice p l.length cap) ⟨h, t, aa, v, n, d⟩ ⟨ch, cr, ci, cl⟩ b cb) := HA0.out.step bb
    clear at0 at1 ay0 ay1 ay2 ay3 ay4 ay5 ay6 ax0 ax1 ax2 ax3 ax4 ax5 ac0 ac1 ac2 ac3 az0 az1 az2 az3 az4 az5 az6 fz0 fz1 fz2 fz3 fz4 fz5 fz6 bb HA0 hw0
    obtain ⟨⟨at0, at1⟩, ⟨ay0, ay1, ay2, ay3, ay4, ay5, ay6⟩, ⟨ax0, ax1, ax2, ax3, ax4, ax5⟩, ⟨ac0, ac1, ac2, ac3⟩, ⟨az0, az1, az2, az3, az4, az5, az6⟩, ⟨fz0, fz1, fz2, fz3, fz4, fz5, fz6⟩⟩ := hflat _ HA1.out
    go_wp2_with fail
    refine (kA _ (HL.out.below HA1.out.2.2.2.2.2)).mono ?_
    rintro e w2 ⟨u, cu, rfl, HO, bb⟩
    have HA2 : Hid (Fiv w w2 ⟨tp, ts⟩ ⟨yh, yt, ya, yv, yn, yd⟩ (.slice p l.length cap) ⟨h, t, aa, v, n, d⟩ ⟨ch, cr, ci, cl⟩ b cb) := HA1.out.step bb
    clear at0 at1 ay0 ay1 ay2 ay3 ay4 ay5 ay6 ax0 ax1 ax2 ax3 ax4 ax5 ac0 ac1 ac2 ac3 az0 az1 az2 az3 az4 az5 az6 fz0 fz1 fz2 fz3 fz4 fz5 fz6 bb
    obtain ⟨⟨at0, at1⟩, ⟨ay0, ay1, ay2, ay3, ay4, ay5, ay6⟩, ⟨ax0, ax1, ax2, ax3, ax4, ax5⟩, ⟨ac0, ac1, ac2, ac3⟩, ⟨az0, az1, az2, az3, az4, az5, az6⟩, ⟨fz0, fz1, fz2, fz3, fz4, fz5, fz6⟩⟩ := hflat _ HA2.out
    obtain ⟨w9, hw9⟩ : ∃ W, (((((((w2).setCell ⟨w.heap.size + 4, 0, none⟩ (.int .i64 yh)).setCell ⟨w.heap.size + 4, 1, none⟩ (.int .i64 yt)).setCell ⟨w.heap.size + 4, 2, none⟩ (.string ya)).setCell ⟨w.heap.size + 4, 3, none⟩ (.string yv)).setCell ⟨w.heap.size + 4, 4, none⟩ (.string yn)).setCell ⟨w.heap.size + 4, 5, none⟩ (.string yd)).setCell ⟨w.heap.size + 4, 6, none⟩ (.slice u l.length cu) = W := ⟨_, rfl⟩
    have hsz : w.heap.size + 4 < w1.heap.size := HA1.out.2.2.2.2.1.lt
    have HZ : Hid (Blk w9 (w.heap.size + 4) [.int .i64 yh, .int .i64 yt, .string ya, .string yv, .string yn, .string yd, .slice u l.length cu] 30) := by rw [← hw9]; exact (((((((HA2.out.2.2.2.2.1).set 0 _).set 1 _).set 2 _).set 3 _).set 4 _).set 5 _).set 6 _
    have HF : Below w.heap.size w w9 := by rw [← hw9]; exact (((((((HA2.out.2.2.2.2.2).setCell (show w.heap.size ≤ w.heap.size + 4 by omega) _).setCell (show w.heap.size ≤ w.heap.size + 4 by omega) _).setCell (show w.heap.size ≤ w.heap.size + 4 by omega) _).setCell (show w.heap.size ≤ w.heap.size + 4 by omega) _).setCell (show w.heap.size ≤ w.heap.size + 4 by omega) _).setCell (show w.heap.size ≤ w.heap.size + 4 by omega) _).setCell (show w.heap.size ≤ w.heap.size + 4 by omega) _
    have HO9 : Hid (OwnV w9 w.heap.size (.slice u l.length cu) l) := by rw [← hw9]; exact own_low (ownsRow_setCell_below (ownsRow_setCell_below (ownsRow_setCell_below (ownsRow_setCell_below (ownsRow_setCell_below (ownsRow_setCell_below (ownsRow_setCell_below HO.out (show w.heap.size + 4 < w1.heap.size from hsz) _) (show w.heap.size + 4 < w1.heap.size from hsz) _) (show w.heap.size + 4 < w1.heap.size from hsz) _) (show w.heap.size + 4 < w1.heap.size from hsz) _) (show w.heap.size + 4 < w1.heap.size from hsz) _) (show w.heap.size + 4 < w1.heap.size from hsz) _) (show w.heap.size + 4 < w1.heap.size from hsz) _) (by omega)
    have r0 := HZ.out.cell 0 rfl
    have r1 := HZ.out.cell 1 rfl
    have r2 := HZ.out.cell 2 rfl
    have r3 := HZ.out.cell 3 rfl
    have r4 := HZ.out.cell 4 rfl
    have r5 := HZ.out.cell 5 rfl
    have r6 := HZ.out.cell 6 rfl
    go_wp2
    try rw [hw9]
    refine bodyPost_ret (v := .tuple #[.agg #[.int .i64 yh, .int .i64 yt, .string ya, .string yv, .string yn, .string yd, .slice u l.length cu], .int .i64 1]) ?_ rfl ⟨_, _, rfl, HO9, HF⟩
    skip
    simp [results, Tryz.results8, go_sem, r0, r1, r2, r3, r4, r5, r6]
  · have hRR := HR true false false false rfl rfl rfl rfl
    have hN1 := HB hRR
    subst hN1
    rw [HA 1 (by decide)]
    simp only
    clear HR HB HA HX hRR kX kW h1 h2 h3 h4
    obtain ⟨tp, ts⟩ := t
    obtain ⟨yh, yt, ya, yv, yn, yd⟩ := y
    obtain ⟨h, t, aa, v, n, d⟩ := x
    obtain ⟨ch, cr, ci, cl⟩ := c
    unfold trV aV hV cV at *
    unfold fivW trcs acs hcs ccs at H0
    simp only at *
    have hflat : ∀ W, Fiv w W ⟨tp, ts⟩ ⟨yh, yt, ya, yv, yn, yd⟩ (.slice p l.length cap) ⟨h, t, aa, v, n, d⟩ ⟨ch, cr, ci, cl⟩ b cb → (W.cell? ⟨w.heap.size, 0, none⟩ = some (.int .i64 tp) ∧ W.cell? ⟨w.heap.size, 1, none⟩ = some (.int .i64 ts)) ∧ (W.cell? ⟨w.heap.size + 1, 0, none⟩ = some (.int .i64 yh) ∧ W.cell? ⟨w.heap.size + 1, 1, none⟩ = some (.int .i64 yt) ∧ W.cell? ⟨w.heap.size + 1, 2, none⟩ = some (.string ya) ∧ W.cell? ⟨w.heap.size + 1, 3, none⟩ = some (.string yv) ∧ W.cell? ⟨w.heap.size + 1, 4, none⟩ = some (.string yn) ∧ W.cell? ⟨w.heap.size + 1, 5, none⟩ = some (.string yd) ∧ W.cell? ⟨w.heap.size + 1, 6, none⟩ = some (.slice p l.length cap)) ∧ (W.cell? ⟨w.heap.size + 2, 0, none⟩ = some (.int .i64 h) ∧ W.cell? ⟨w.heap.size + 2, 1, none⟩ = some (.int .i64 t) ∧ W.cell? ⟨w.heap.size + 2, 2, none⟩ = some (.string aa) ∧ W.cell? ⟨w.heap.size + 2, 3, none⟩ = some (.string v) ∧ W.cell? ⟨w.heap.size + 2, 4, none⟩ = some (.string n) ∧ W.cell? ⟨w.heap.size + 2, 5, none⟩ = some (.string d)) ∧ (W.cell? ⟨w.heap.size + 3, 0, none⟩ = some (.int .i64 ch) ∧ W.cell? ⟨w.heap.size + 3, 1, none⟩ = some (.int .i64 cr) ∧ W.cell? ⟨w.heap.size + 3, 2, none⟩ = some (.string ci) ∧ W.cell? ⟨w.heap.size + 3, 3, none⟩ = some (.slice b cl.length cb)) ∧ (W.cell? ⟨w.heap.size + 4, 0, none⟩ = some (.int .i64 0) ∧ W.cell? ⟨w.heap.size + 4, 1, none⟩ = some (.int .i64 0) ∧ W.cell? ⟨w.heap.size + 4, 2, none⟩ = some (.string ⟨#[]⟩) ∧ W.cell? ⟨w.heap.size + 4, 3, none⟩ = some (.string ⟨#[]⟩) ∧ W.cell? ⟨w.heap.size + 4, 4, none⟩ = some (.string ⟨#[]⟩) ∧ W.cell? ⟨w.heap.size + 4, 5, none⟩ = some (.string ⟨#[]⟩) ∧ W.cell? ⟨w.heap.size + 4, 6, none⟩ = some (.slice none 0 0)) ∧ (W.frozen? ⟨w.heap.size + 4, 0, none⟩ = false ∧ W.frozen? ⟨w.heap.size + 4, 1, none⟩ = false ∧ W.frozen? ⟨w.heap.size + 4, 2, none⟩ = false ∧ W.frozen? ⟨w.heap.size + 4, 3, none⟩ = false ∧ W.frozen? ⟨w.heap.size + 4, 4, none⟩ = false ∧ W.frozen? ⟨w.heap.size + 4, 5, none⟩ = false ∧ W.frozen? ⟨w.heap.size + 4, 6, none⟩ = false) := fun W h => ⟨⟨h.1.cell 0 rfl, h.1.cell 1 rfl⟩, ⟨h.2.1.cell 0 rfl, h.2.1.cell 1 rfl, h.2.1.cell 2 rfl, h.2.1.cell 3 rfl, h.2.1.cell 4 rfl, h.2.1.cell 5 rfl, h.2.1.cell 6 rfl⟩, ⟨h.2.2.1.cell 0 rfl, h.2.2.1.cell 1 rfl, h.2.2.1.cell 2 rfl, h.2.2.1.cell 3 rfl, h.2.2.1.cell 4 rfl, h.2.2.1.cell 5 rfl⟩, ⟨h.2.2.2.1.cell 0 rfl, h.2.2.2.1.cell 1 rfl, h.2.2.2.1.cell 2 rfl, h.2.2.2.1.cell 3 rfl⟩, ⟨h.2.2.2.2.1.cell 0 rfl, h.2.2.2.2.1.cell 1 rfl, h.2.2.2.2.1.cell 2 rfl, h.2.2.2.2.1.cell 3 rfl, h.2.2.2.2.1.cell 4 rfl, h.2.2.2.2.1.cell 5 rfl, h.2.2.2.2.1.cell 6 rfl⟩, ⟨h.2.2.2.2.1.frozen 0, h.2.2.2.2.1.frozen 1, h.2.2.2.2.1.frozen 2, h.2.2.2.2.1.frozen 3, h.2.2.2.2.1.frozen 4, h.2.2.2.2.1.frozen 5, h.2.2.2.2.1.frozen 6⟩⟩
    obtain ⟨w0, hw0⟩ : ∃ W, ((((w.alloc (Obj.cells #[Value.int .i64 tp, Value.int .i64 ts] 25)).alloc (Obj.cells #[Value.int .i64 yh, Value.int .i64 yt, Value.string ya, Value.string yv, Value.string yn, Value.string yd, Value.slice p l.length cap] 30)).alloc (Obj.cells #[Value.int .i64 h, Value.int .i64 t, Value.string aa, Value.string v, Value.string n, Value.string d] 27)).alloc (Obj.cells #[Value.int .i64 ch, Value.int .i64 cr, Value.string ci, Value.slice b cl.length cb] 33)).alloc (Obj.cells #[Value.int .i64 0, Value.int .i64 0, Value.string ⟨#[]⟩, Value.string ⟨#[]⟩, Value.string ⟨#[]⟩, Value.string ⟨#[]⟩, Value.slice none 0 0] 30) = W := ⟨_, rfl⟩
    have HA0 : Hid (Fiv w w0 ⟨tp, ts⟩ ⟨yh, yt, ya, yv, yn, yd⟩ (.slice p l.length cap) ⟨h, t, aa, v, n, d⟩ ⟨ch, cr, ci, cl⟩ b cb) := by rw [← hw0]; exact H0.out
    clear H0
    obtain ⟨⟨at0, at1⟩, ⟨ay0, ay1, ay2, ay3, ay4, ay5, ay6⟩, ⟨ax0, ax1, ax2, ax3, ax4, ax5⟩, ⟨ac0, ac1, ac2, ac3⟩, ⟨az0, az1, az2, az3, az4, az5, az6⟩, ⟨fz0, fz1, fz2, fz3, fz4, fz5, fz6⟩⟩ := hflat _ HA0.out
    go_enter Tryz.func8, Tryz.ntmps8
    go_wp2_with fail
    try rw [hw0]
    refine (k1 _).mono ?_
    rintro e w1 ⟨rfl, bb⟩
    have HA1 : Hid (Fiv w w1 ⟨tp, ts⟩ ⟨yh, yt, ya, yv, yn, yd⟩ (.slice p l.length cap) ⟨h, t, aa, v, n, d⟩ ⟨ch, cr, ci, cl⟩ b cb) := HA0.out.step bb
    clear at0 at1 ay0 ay1 ay2 ay3 ay4 ay5 ay6 ax0 ax1 ax2 ax3 ax4 ax5 ac0 ac1 ac2 ac3 az0 az1 az2 az3 az4 az5 az6 fz0 fz1 fz2 fz3 fz4 fz5 fz6 bb HA0 hw0
    obtain ⟨⟨at0, at1⟩, ⟨ay0, ay1, ay2, ay3, ay4, ay5, ay6⟩, ⟨ax0, ax1, ax2, ax3, ax4, ax5⟩, ⟨ac0, ac1, ac2, ac3⟩, ⟨az0, az1, az2, az3, az4, az5, az6⟩, ⟨fz0, fz1, fz2, fz3, fz4, fz5, fz6⟩⟩ := hflat _ HA1.out
    go_wp2_with fail
    refine (k2 _ (HL.out.below HA1.out.2.2.2.2.2)).mono ?_
    rintro e w2 ⟨rfl, bb⟩
    have HA2 : Hid (Fiv w w2 ⟨tp, ts⟩ ⟨yh, yt, ya, yv, yn, yd⟩ (.slice p l.length cap) ⟨h, t, aa, v, n, d⟩ ⟨ch, cr, ci, cl⟩ b cb) := HA1.out.step bb
    clear at0 at1 ay0 ay1 ay2 ay3 ay4 ay5 ay6 ax0 ax1 ax2 ax3 ax4 ax5 ac0 ac1 ac2 ac3 az0 az1 az2 az3 az4 az5 az6 fz0 fz1 fz2 fz3 fz4 fz5 fz6 bb HA1
    obtain ⟨⟨at0, at1⟩, ⟨ay0, ay1, ay2, ay3, ay4, ay5, ay6⟩, ⟨ax0, ax1, ax2, ax3, ax4, ax5⟩, ⟨ac0, ac1, ac2, ac3⟩, ⟨az0, az1, az2, az3, az4, az5, az6⟩, ⟨fz0, fz1, fz2, fz3, fz4, fz5, fz6⟩⟩ := hflat _ HA2.out
    go_wp2_with fail
    refine (kA _ (HL.out.below HA2.out.2.2.2.2.2)).mono ?_
    rintro e w3 ⟨u, cu, rfl, HO, bb⟩
    have HA3 : Hid (Fiv w w3 ⟨tp, ts⟩ ⟨yh, yt, ya, yv, yn, yd⟩ (.slice p l.length cap) ⟨h, t, aa, v, n, d⟩ ⟨ch, cr, ci, cl⟩ b cb) := HA2.out.step bb
    clear at0 at1 ay0 ay1 ay2 ay3 ay4 ay5 ay6 ax0 ax1 ax2 ax3 ax4 ax5 ac0 ac1 ac2 ac3 az0 az1 az2 az3 az4 az5 az6 fz0 fz1 fz2 fz3 fz4 fz5 fz6 bb
    obtain ⟨⟨at0, at1⟩, ⟨ay0, ay1, ay2, ay3, ay4, ay5, ay6⟩, ⟨ax0, ax1, ax2, ax3, ax4, ax5⟩, ⟨ac0, ac1, ac2, ac3⟩, ⟨az0, az1, az2, az3, az4, az5, az6⟩, ⟨fz0, fz1, fz2, fz3, fz4, fz5, fz6⟩⟩ := hflat _ HA3.out
    obtain ⟨w9, hw9⟩ : ∃ W, (((((((w3).setCell ⟨w.heap.size + 4, 0, none⟩ (.int .i64 yh)).setCell ⟨w.heap.size + 4, 1, none⟩ (.int .i64 yt)).setCell ⟨w.heap.size + 4, 2, none⟩ (.string ya)).setCell ⟨w.heap.size + 4, 3, none⟩ (.string yv)).setCell ⟨w.heap.size + 4, 4, none⟩ (.string yn)).setCell ⟨w.heap.size + 4, 5, none⟩ (.string yd)).setCell ⟨w.heap.size + 4, 6, none⟩ (.slice u l.length cu) = W := ⟨_, rfl⟩
    have hsz : w.heap.size + 4 < w2.heap.size := HA2.out.2.2.2.2.1.lt
    have HZ : Hid (Blk w9 (w.heap.size + 4) [.int .i64 yh, .int .i64 yt, .string ya, .string yv, .string yn, .string yd, .slice u l.length cu] 30) := by rw [← hw9]; exact (((((((HA3.out.2.2.2.2.1).set 0 _).set 1 _).set 2 _).set 3 _).set 4 _).set 5 _).set 6 _
    have HF : Below w.heap.size w w9 := by rw [← hw9]; exact (((((((HA3.out.2.2.2.2.2).setCell (show w.heap.size ≤ w.heap.size + 4 by omega) _).setCell (show w.heap.size ≤ w.heap.size + 4 by omega) _).setCell (show w.heap.size ≤ w.heap.size + 4 by omega) _).setCell (show w.heap.size ≤ w.heap.size + 4 by omega) _).setCell (show w.heap.size ≤ w.heap.size + 4 by omega) _).setCell (show w.heap.size ≤ w.heap.size + 4 by omega) _).setCell (show w.heap.size ≤ w.heap.size + 4 by omega) _
    have HO9 : Hid (OwnV w9 w.heap.size (.slice u l.length cu) l) := by rw [← hw9]; exact own_low (ownsRow_setCell_below (ownsRow_setCell_below (ownsRow_setCell_below (ownsRow_setCell_below (ownsRow_setCell_below (ownsRow_setCell_below (ownsRow_setCell_below HO.out (show w.heap.size + 4 < w2.heap.size from hsz) _) (show w.heap.size + 4 < w2.heap.size from hsz) _) (show w.heap.size + 4 < w2.heap.size from hsz) _) (show w.heap.size + 4 < w2.heap.size from hsz) _) (show w.heap.size + 4 < w2.heap.size from hsz) _) (show w.heap.size + 4 < w2.heap.size from hsz) _) (show w.heap.size + 4 < w2.heap.size from hsz) _) (by omega)
    have r0 := HZ.out.cell 0 rfl
    have r1 := HZ.out.cell 1 rfl
    have r2 := HZ.out.cell 2 rfl
    have r3 := HZ.out.cell 3 rfl
    have r4 := HZ.out.cell 4 rfl
    have r5 := HZ.out.cell 5 rfl
    have r6 := HZ.out.cell 6 rfl
    go_wp2
    try rw [hw9]
    refine bodyPost_ret (v := .tuple #[.agg #[.int .i64 yh, .int .i64 yt, .string ya, .string yv, .string yn, .string yd, .slice u l.length cu], .int .i64 1]) ?_ rfl ⟨_, _, rfl, HO9, HF⟩
    skip
    simp [results, Tryz.results8, go_sem, r0, r1, r2, r3, r4, r5, r6]
  · have hRR := HR true false false true rfl rfl rfl rfl
    have hN1 := HB hRR
    subst hN1
    rw [HA 1 (by decide)]
    simp only
    clear HR HB HA HX hRR kX kW h1 h2 h3 h4
    obtain ⟨tp, ts⟩ := t
    obtain ⟨yh, yt, ya, yv, yn, yd⟩ := y
    obtain ⟨h, t, aa, v, n, d⟩ := x
    obtain ⟨ch, cr, ci, cl⟩ := c
    unfold trV aV hV cV at *
    unfold fivW trcs acs hcs ccs at H0
    simp only at *
    have hflat : ∀ W, Fiv w W ⟨tp, ts⟩ ⟨yh, yt, ya, yv, yn, yd⟩ (.slice p l.length cap) ⟨h, t, aa, v, n, d⟩ ⟨ch, cr, ci, cl⟩ b cb → (W.cell? ⟨w.heap.size, 0, none⟩ = some (.int .i64 tp) ∧ W.cell? ⟨w.heap.size, 1, none⟩ = some (.int .i64 ts)) ∧ (W.cell? ⟨w.heap.size + 1, 0, none⟩ = some (.int .i64 yh) ∧ W.cell? ⟨w.heap.size + 1, 1, none⟩ = some (.int .i64 yt) ∧ W.cell? ⟨w.heap.size + 1, 2, none⟩ = some (.string ya) ∧ W.cell? ⟨w.heap.size + 1, 3, none⟩ = some (.string yv) ∧ W.cell? ⟨w.heap.size + 1, 4, none⟩ = some (.string yn) ∧ W.cell? ⟨w.heap.size + 1, 5, none⟩ = some (.string yd) ∧ W.cell? ⟨w.heap.size + 1, 6, none⟩ = some (.slice p l.length cap)) ∧ (W.cell? ⟨w.heap.size + 2, 0, none⟩ = some (.int .i64 h) ∧ W.cell? ⟨w.heap.size + 2, 1, none⟩ = some (.int .i64 t) ∧ W.cell? ⟨w.heap.size + 2, 2, none⟩ = some (.string aa) ∧ W.cell? ⟨w.heap.size + 2, 3, none⟩ = some (.string v) ∧ W.cell? ⟨w.heap.size + 2, 4, none⟩ = some (.string n) ∧ W.cell? ⟨w.heap.size + 2, 5, none⟩ = some (.string d)) ∧ (W.cell? ⟨w.heap.size + 3, 0, none⟩ = some (.int .i64 ch) ∧ W.cell? ⟨w.heap.size + 3, 1, none⟩ = some (.int .i64 cr) ∧ W.cell? ⟨w.heap.size + 3, 2, none⟩ = some (.string ci) ∧ W.cell? ⟨w.heap.size + 3, 3, none⟩ = some (.slice b cl.length cb)) ∧ (W.cell? ⟨w.heap.size + 4, 0, none⟩ = some (.int .i64 0) ∧ W.cell? ⟨w.heap.size + 4, 1, none⟩ = some (.int .i64 0) ∧ W.cell? ⟨w.heap.size + 4, 2, none⟩ = some (.string ⟨#[]⟩) ∧ W.cell? ⟨w.heap.size + 4, 3, none⟩ = some (.string ⟨#[]⟩) ∧ W.cell? ⟨w.heap.size + 4, 4, none⟩ = some (.string ⟨#[]⟩) ∧ W.cell? ⟨w.heap.size + 4, 5, none⟩ = some (.string ⟨#[]⟩) ∧ W.cell? ⟨w.heap.size + 4, 6, none⟩ = some (.slice none 0 0)) ∧ (W.frozen? ⟨w.heap.size + 4, 0, none⟩ = false ∧ W.frozen? ⟨w.heap.size + 4, 1, none⟩ = false ∧ W.frozen? ⟨w.heap.size + 4, 2, none⟩ = false ∧ W.frozen? ⟨w.heap.size + 4, 3, none⟩ = false ∧ W.frozen? ⟨w.heap.size + 4, 4, none⟩ = false ∧ W.frozen? ⟨w.heap.size + 4, 5, none⟩ = false ∧ W.frozen? ⟨w.heap.size + 4, 6, none⟩ = false) := fun W h => ⟨⟨h.1.cell 0 rfl, h.1.cell 1 rfl⟩, ⟨h.2.1.cell 0 rfl, h.2.1.cell 1 rfl, h.2.1.cell 2 rfl, h.2.1.cell 3 rfl, h.2.1.cell 4 rfl, h.2.1.cell 5 rfl, h.2.1.cell 6 rfl⟩, ⟨h.2.2.1.cell 0 rfl, h.2.2.1.cell 1 rfl, h.2.2.1.cell 2 rfl, h.2.2.1.cell 3 rfl, h.2.2.1.cell 4 rfl, h.2.2.1.cell 5 rfl⟩, ⟨h.2.2.2.1.cell 0 rfl, h.2.2.2.1.cell 1 rfl, h.2.2.2.1.cell 2 rfl, h.2.2.2.1.cell 3 rfl⟩, ⟨h.2.2.2.2.1.cell 0 rfl, h.2.2.2.2.1.cell 1 rfl, h.2.2.2.2.1.cell 2 rfl, h.2.2.2.2.1.cell 3 rfl, h.2.2.2.2.1.cell 4 rfl, h.2.2.2.2.1.cell 5 rfl, h.2.2.2.2.1.cell 6 rfl⟩, ⟨h.2.2.2.2.1.frozen 0, h.2.2.2.2.1.frozen 1, h.2.2.2.2.1.frozen 2, h.2.2.2.2.1.frozen 3, h.2.2.2.2.1.frozen 4, h.2.2.2.2.1.frozen 5, h.2.2.2.2.1.frozen 6⟩⟩
    obtain ⟨w0, hw0⟩ : ∃ W, ((((w.alloc (Obj.cells #[Value.int .i64 tp, Value.int .i64 ts] 25)).alloc (Obj.cells #[Value.int .i64 yh, Value.int .i64 yt, Value.string ya, Value.string yv, Value.string yn, Value.string yd, Value.slice p l.length cap] 30)).alloc (Obj.cells #[Value.int .i64 h, Value.int .i64 t, Value.string aa, Value.string v, Value.string n, Value.string d] 27)).alloc (Obj.cells #[Value.int .i64 ch, Value.int .i64 cr, Value.string ci, Value.slice b cl.length cb] 33)).alloc (Obj.cells #[Value.int .i64 0, Value.int .i64 0, Value.string ⟨#[]⟩, Value.string ⟨#[]⟩, Value.string ⟨#[]⟩, Value.string ⟨#[]⟩, Value.slice none 0 0] 30) = W := ⟨_, rfl⟩
    have HA0 : Hid (Fiv w w0 ⟨tp, ts⟩ ⟨yh, yt, ya, yv, yn, yd⟩ (.slice p l.length cap) ⟨h, t, aa, v, n, d⟩ ⟨ch, cr, ci, cl⟩ b cb) := by rw [← hw0]; exact H0.out
    clear H0
    obtain ⟨⟨at0, at1⟩, ⟨ay0, ay1, ay2, ay3, ay4, ay5, ay6⟩, ⟨ax0, ax1, ax2, ax3, ax4, ax5⟩, ⟨ac0, ac1, ac2, ac3⟩, ⟨az0, az1, az2, az3, az4, az5, az6⟩, ⟨fz0, fz1, fz2, fz3, fz4, fz5, fz6⟩⟩ := hflat _ HA0.out
    go_enter Tryz.func8, Tryz.ntmps8
    go_wp2_with fail
    try rw [hw0]
    refine (k1 _).mono ?_
    rintro e w1 ⟨rfl, bb⟩
    have HA1 : Hid (Fiv w w1 ⟨tp, ts⟩ ⟨yh, yt, ya, yv, yn, yd⟩ (.slice p l.length cap) ⟨h, t, aa, v, n, d⟩ ⟨ch, cr, ci, cl⟩ b cb) := HA0.out.step bb
    clear at0 at1 ay0 ay1 ay2 ay3 ay4 ay5 ay6 ax0 ax1 ax2 ax3 ax4 ax5 ac0 ac1 ac2 ac3 az0 az1 az2 az3 az4 az5 az6 fz0 fz1 fz2 fz3 fz4 fz5 fz6 bb HA0 hw0
    obtain ⟨⟨at0, at1⟩, ⟨ay0, ay1, ay2, ay3, ay4, ay5, ay6⟩, ⟨ax0, ax1, ax2, ax3, ax4, ax5⟩, ⟨ac0, ac1, ac2, ac3⟩, ⟨az0, az1, az2, az3, az4, az5, az6⟩, ⟨fz0, fz1, fz2, fz3, fz4, fz5, fz6⟩⟩ := hflat _ HA1.out
    go_wp2_with fail
    refine (k2 _ (HL.out.below HA1.out.2.2.2.2.2)).mono ?_
    rintro e w2 ⟨rfl, bb⟩
    have HA2 : Hid (Fiv w w2 ⟨tp, ts⟩ ⟨yh, yt, ya, yv, yn, yd⟩ (.slice p l.length cap) ⟨h, t, aa, v, n, d⟩ ⟨ch, cr, ci, cl⟩ b cb) := HA1.out.step bb
    clear at0 at1 ay0 ay1 ay2 ay3 ay4 ay5 ay6 ax0 ax1 ax2 ax3 ax4 ax5 ac0 ac1 ac2 ac3 az0 az1 az2 az3 az4 az5 az6 fz0 fz1 fz2 fz3 fz4 fz5 fz6 bb HA1
    obtain ⟨⟨at0, at1⟩, ⟨ay0, ay1, ay2, ay3, ay4, ay5, ay6⟩, ⟨ax0, ax1, ax2, ax3, ax4, ax5⟩, ⟨ac0, ac1, ac2, ac3⟩, ⟨az0, az1, az2, az3, az4, az5, az6⟩, ⟨fz0, fz1, fz2, fz3, fz4, fz5, fz6⟩⟩ := hflat _ HA2.out
    go_wp2_with fail
    refine (kA _ (HL.out.below HA2.out.2.2.2.2.2)).mono ?_
    rintro e w3 ⟨u, cu, rfl, HO, bb⟩
    have HA3 : Hid (Fiv w w3 ⟨tp, ts⟩ ⟨yh, yt, ya, yv, yn, yd⟩ (.slice p l.length cap) ⟨h, t, aa, v, n, d⟩ ⟨ch, cr, ci, cl⟩ b cb) := HA2.out.step bb
    clear at0 at1 ay0 ay1 ay2 ay3 ay4 ay5 ay6 ax0 ax1 ax2 ax3 ax4 ax5 ac0 ac1 ac2 ac3 az0 az1 az2 az3 az4 az5 az6 fz0 fz1 fz2 fz3 fz4 fz5 fz6 bb
    obtain ⟨⟨at0, at1⟩, ⟨ay0, ay1, ay2, ay3, ay4, ay5, ay6⟩, ⟨ax0, ax1, ax2, ax3, ax4, ax5⟩, ⟨ac0, ac1, ac2, ac3⟩, ⟨az0, az1, az2, az3, az4, az5, az6⟩, ⟨fz0, fz1, fz2, fz3, fz4, fz5, fz6⟩⟩ := hflat _ HA3.out
    obtain ⟨w9, hw9⟩ : ∃ W, (((((((w3).setCell ⟨w.heap.size + 4, 0, none⟩ (.int .i64 yh)).setCell ⟨w.heap.size + 4, 1, none⟩ (.int .i64 yt)).setCell ⟨w.heap.size + 4, 2, none⟩ (.string ya)).setCell ⟨w.heap.size + 4, 3, none⟩ (.string yv)).setCell ⟨w.heap.size + 4, 4, none⟩ (.string yn)).setCell ⟨w.heap.size + 4, 5, none⟩ (.string yd)).setCell ⟨w.heap.size + 4, 6, none⟩ (.slice u l.length cu) = W := ⟨_, rfl⟩
    have hsz : w.heap.size + 4 < w2.heap.size := HA2.out.2.2.2.2.1.lt
    have HZ : Hid (Blk w9 (w.heap.size + 4) [.int .i64 yh, .int .i64 yt, .string ya, .string yv, .string yn, .string yd, .slice u l.length cu] 30) := by rw [← hw9]; exact (((((((HA3.out.2.2.2.2.1).set 0 _).set 1 _).set 2 _).set 3 _).set 4 _).set 5 _).set 6 _
    have HF : Below w.heap.size w w9 := by rw [← hw9]; exact (((((((HA3.out.2.2.2.2.2).setCell (show w.heap.size ≤ w.heap.size + 4 by omega) _).setCell (show w.heap.size ≤ w.heap.size + 4 by omega) _).setCell (show w.heap.size ≤ w.heap.size + 4 by omega) _).setCell (show w.heap.size ≤ w.heap.size + 4 by omega) _).setCell (show w.heap.size ≤ w.heap.size + 4 by omega) _).setCell (show w.heap.size ≤ w.heap.size + 4 by omega) _).setCell (show w.heap.size ≤ w.heap.size + 4 by omega) _
    have HO9 : Hid (OwnV w9 w.heap.size (.slice u l.length cu) l) := by rw [← hw9]; exact own_low (ownsRow_setCell_below (ownsRow_setCell_below (ownsRow_setCell_below (ownsRow_setCell_below (ownsRow_setCell_below (ownsRow_setCell_below (ownsRow_setCell_below HO.out (show w.heap.size + 4 < w2.heap.size from hsz) _) (show w.heap.size + 4 < w2.heap.size from hsz) _) (show w.heap.size + 4 < w2.heap.size from hsz) _) (show w.heap.size + 4 < w2.heap.size from hsz) _) (show w.heap.size + 4 < w2.heap.size from hsz) _) (show w.heap.size + 4 < w2.heap.size from hsz) _) (show w.heap.size + 4 < w2.heap.size from hsz) _) (by omega)
    have r0 := HZ.out.cell 0 rfl
    have r1 := HZ.out.cell 1 rfl
    have r2 := HZ.out.cell 2 rfl
    have r3 := HZ.out.cell 3 rfl
    have r4 := HZ.out.cell 4 rfl
    have r5 := HZ.out.cell 5 rfl
    have r6 := HZ.out.cell 6 rfl
    go_wp2
    try rw [hw9]
    refine bodyPost_ret (v := .tuple #[.agg #[.int .i64 yh, .int .i64 yt, .string ya, .string yv, .string yn, .string yd, .slice u l.length cu], .int .i64 1]) ?_ rfl ⟨_, _, rfl, HO9, HF⟩
    skip
    simp [results, Tryz.results8, go_sem, r0, r1, r2, r3, r4, r5, r6]
  · have hRR := HR true false true false rfl rfl rfl rfl
    have hN1 := HB hRR
    subst hN1
    rw [HA 1 (by decide)]
    simp only
    clear HR HB HA HX hRR kX kW h1 h2 h3 h4
    obtain ⟨tp, ts⟩ := t
    obtain ⟨yh, yt, ya, yv, yn, yd⟩ := y
    obtain ⟨h, t, aa, v, n, d⟩ := x
    obtain ⟨ch, cr, ci, cl⟩ := c
    unfold trV aV hV cV at *
    unfold fivW trcs acs hcs ccs at H0
    simp only at *
    have hflat : ∀ W, Fiv w W ⟨tp, ts⟩ ⟨yh, yt, ya, yv, yn, yd⟩ (.slice p l.length cap) ⟨h, t, aa, v, n, d⟩ ⟨ch, cr, ci, cl⟩ b cb → (W.cell? ⟨w.heap.size, 0, none⟩ = some (.int .i64 tp) ∧ W.cell? ⟨w.heap.size, 1, none⟩ = some (.int .i64 ts)) ∧ (W.cell? ⟨w.heap.size + 1, 0, none⟩ = some (.int .i64 yh) ∧ W.cell? ⟨w.heap.size + 1, 1, none⟩ = some (.int .i64 yt) ∧ W.cell? ⟨w.heap.size + 1, 2, none⟩ = some (.string ya) ∧ W.cell? ⟨w.heap.size + 1, 3, none⟩ = some (.string yv) ∧ W.cell? ⟨w.heap.size + 1, 4, none⟩ = some (.string yn) ∧ W.cell? ⟨w.heap.size + 1, 5, none⟩ = some (.string yd) ∧ W.cell? ⟨w.heap.size + 1, 6, none⟩ = some (.slice p l.length cap)) ∧ (W.cell? ⟨w.heap.size + 2, 0, none⟩ = some (.int .i64 h) ∧ W.cell? ⟨w.heap.size + 2, 1, none⟩ = some (.int .i64 t) ∧ W.cell? ⟨w.heap.size + 2, 2, none⟩ = some (.string aa) ∧ W.cell? ⟨w.heap.size + 2, 3, none⟩ = some (.string v) ∧ W.cell? ⟨w.heap.size + 2, 4, none⟩ = some (.string n) ∧ W.cell? ⟨w.heap.size + 2, 5, none⟩ = some (.string d)) ∧ (W.cell? ⟨w.heap.size + 3, 0, none⟩ = some (.int .i64 ch) ∧ W.cell? ⟨w.heap.size + 3, 1, none⟩ = some (.int .i64 cr) ∧ W.cell? ⟨w.heap.size + 3, 2, none⟩ = some (.string ci) ∧ W.cell? ⟨w.heap.size + 3, 3, none⟩ = some (.slice b cl.length cb)) ∧ (W.cell? ⟨w.heap.size + 4, 0, none⟩ = some (.int .i64 0) ∧ W.cell? ⟨w.heap.size + 4, 1, none⟩ = some (.int .i64 0) ∧ W.cell? ⟨w.heap.size + 4, 2, none⟩ = some (.string ⟨#[]⟩) ∧ W.cell? ⟨w.heap.size + 4, 3, none⟩ = some (.string ⟨#[]⟩) ∧ W.cell? ⟨w.heap.size + 4, 4, none⟩ = some (.string ⟨#[]⟩) ∧ W.cell? ⟨w.heap.size + 4, 5, none⟩ = some (.string ⟨#[]⟩) ∧ W.cell? ⟨w.heap.size + 4, 6, none⟩ = some (.slice none 0 0)) ∧ (W.frozen? ⟨w.heap.size + 4, 0, none⟩ = false ∧ W.frozen? ⟨w.heap.size + 4, 1, none⟩ = false ∧ W.frozen? ⟨w.heap.size + 4, 2, none⟩ = false ∧ W.frozen? ⟨w.heap.size + 4, 3, none⟩ = false ∧ W.frozen? ⟨w.heap.size + 4, 4, none⟩ = false ∧ W.frozen? ⟨w.heap.size + 4, 5, none⟩ = false ∧ W.frozen? ⟨w.heap.size + 4, 6, none⟩ = false) := fun W h => ⟨⟨h.1.cell 0 rfl, h.1.cell 1 rfl⟩, ⟨h.2.1.cell 0 rfl, h.2.1.cell 1 rfl, h.2.1.cell 2 rfl, h.2.1.cell 3 rfl, h.2.1.cell 4 rfl, h.2.1.cell 5 rfl, h.2.1.cell 6 rfl⟩, ⟨h.2.2.1.cell 0 rfl, h.2.2.1.cell 1 rfl, h.2.2.1.cell 2 rfl, h.2.2.1.cell 3 rfl, h.2.2.1.cell 4 rfl, h.2.2.1.cell 5 rfl⟩, ⟨h.2.2.2.1.cell 0 rfl, h.2.2.2.1.cell 1 rfl, h.2.2.2.1.cell 2 rfl, h.2.2.2.1.cell 3 rfl⟩, ⟨h.2.2.2.2.1.cell 0 rfl, h.2.2.2.2.1.cell 1 rfl, h.2.2.2.2.1.cell 2 rfl, h.2.2.2.2.1.cell 3 rfl, h.2.2.2.2.1.cell 4 rfl, h.2.2.2.2.1.cell 5 rfl, h.2.2.2.2.1.cell 6 rfl⟩, ⟨h.2.2.2.2.1.frozen 0, h.2.2.2.2.1.frozen 1, h.2.2.2.2.1.frozen 2, h.2.2.2.2.1.frozen 3, h.2.2.2.2.1.frozen 4, h.2.2.2.2.1.frozen 5, h.2.2.2.2.1.frozen 6⟩⟩
    obtain ⟨w0, hw0⟩ : ∃ W, ((((w.alloc (Obj.cells #[Value.int .i64 tp, Value.int .i64 ts] 25)).alloc (Obj.cells #[Value.int .i64 yh, Value.int .i64 yt, Value.string ya, Value.string yv, Value.string yn, Value.string yd, Value.slice p l.length cap] 30)).alloc (Obj.cells #[Value.int .i64 h, Value.int .i64 t, Value.string aa, Value.string v, Value.string n, Value.string d] 27)).alloc (Obj.cells #[Value.int .i64 ch, Value.int .i64 cr, Value.string ci, Value.slice b cl.length cb] 33)).alloc (Obj.cells #[Value.int .i64 0, Value.int .i64 0, Value.string ⟨#[]⟩, Value.string ⟨#[]⟩, Value.string ⟨#[]⟩, Value.string ⟨#[]⟩, Value.slice none 0 0] 30) = W := ⟨_, rfl⟩
    have HA0 : Hid (Fiv w w0 ⟨tp, ts⟩ ⟨yh, yt, ya, yv, yn, yd⟩ (.slice p l.length cap) ⟨h, t, aa, v, n, d⟩ ⟨ch, cr, ci, cl⟩ b cb) := by rw [← hw0]; exact H0.out
    clear H0
    obtain ⟨⟨at0, at1⟩, ⟨ay0, ay1, ay2, ay3, ay4, ay5, ay6⟩, ⟨ax0, ax1, ax2, ax3, ax4, ax5⟩, ⟨ac0, ac1, ac2, ac3⟩, ⟨az0, az1, az2, az3, az4, az5, az6⟩, ⟨fz0, fz1, fz2, fz3, fz4, fz5, fz6⟩⟩ := hflat _ HA0.out
    go_enter Tryz.func8, Tryz.ntmps8
    go_wp2_with fail
    try rw [hw0]
    refine (k1 _).mono ?_
    rintro e w1 ⟨rfl, bb⟩
    have HA1 : Hid (Fiv w w1 ⟨tp, ts⟩ ⟨yh, yt, ya, yv, yn, yd⟩ (.slice p l.length cap) ⟨h, t, aa, v, n, d⟩ ⟨ch, cr, ci, cl⟩ b cb) := HA0.out.step bb
    clear at0 at1 ay0 ay1 ay2 ay3 ay4 ay5 ay6 ax0 ax1 ax2 ax3 ax4 ax5 ac0 ac1 ac2 ac3 az0 az1 az2 az3 az4 az5 az6 fz0 fz1 fz2 fz3 fz4 fz5 fz6 bb HA0 hw0
    obtain ⟨⟨at0, at1⟩, ⟨ay0, ay1, ay2, ay3, ay4, ay5, ay6⟩, ⟨ax0, ax1, ax2, ax3, ax4, ax5⟩, ⟨ac0, ac1, ac2, ac3⟩, ⟨az0, az1, az2, az3, az4, az5, az6⟩, ⟨fz0, fz1, fz2, fz3, fz4, fz5, fz6⟩⟩ := hflat _ HA1.out
    go_wp2_with fail
    refine (k2 _ (HL.out.below HA1.out.2.2.2.2.2)).mono ?_
    rintro e w2 ⟨rfl, bb⟩
    have HA2 : Hid (Fiv w w2 ⟨tp, ts⟩ ⟨yh, yt, ya, yv, yn, yd⟩ (.slice p l.length cap) ⟨h, t, aa, v, n, d⟩ ⟨ch, cr, ci, cl⟩ b cb) := HA1.out.step bb
    clear at0 at1 ay0 ay1 ay2 ay3 ay4 ay5 ay6 ax0 ax1 ax2 ax3 ax4 ax5 ac0 ac1 ac2 ac3 az0 az1 az2 az3 az4 az5 az6 fz0 fz1 fz2 fz3 fz4 fz5 fz6 bb HA1
    obtain ⟨⟨at0, at1⟩, ⟨ay0, ay1, ay2, ay3, ay4, ay5, ay6⟩, ⟨ax0, ax1, ax2, ax3, ax4, ax5⟩, ⟨ac0, ac1, ac2, ac3⟩, ⟨az0, az1, az2, az3, az4, az5, az6⟩, ⟨fz0, fz1, fz2, fz3, fz4, fz5, fz6⟩⟩ := hflat _ HA2.out
    go_wp2_with fail
    refine (kA _ (HL.out.below HA2.out.2.2.2.2.2)).mono ?_
    rintro e w3 ⟨u, cu, rfl, HO, bb⟩
    have HA3 : Hid (Fiv w w3 ⟨tp, ts⟩ ⟨yh, yt, ya, yv, yn, yd⟩ (.slice p l.length cap) ⟨h, t, aa, v, n, d⟩ ⟨ch, cr, ci, cl⟩ b cb) := HA2.out.step bb
    clear at0 at1 ay0 ay1 ay2 ay3 ay4 ay5 ay6 ax0 ax1 ax2 ax3 ax4 ax5 ac0 ac1 ac2 ac3 az0 az1 az2 az3 az4 az5 az6 fz0 fz1 fz2 fz3 fz4 fz5 fz6 bb
    obtain ⟨⟨at0, at1⟩, ⟨ay0, ay1, ay2, ay3, ay4, ay5, ay6⟩, ⟨ax0, ax1, ax2, ax3, ax4, ax5⟩, ⟨ac0, ac1, ac2, ac3⟩, ⟨az0, az1, az2, az3, az4, az5, az6⟩, ⟨fz0, fz1, fz2, fz3, fz4, fz5, fz6⟩⟩ := hflat _ HA3.out
    obtain ⟨w9, hw9⟩ : ∃ W, (((((((w3).setCell ⟨w.heap.size + 4, 0, none⟩ (.int .i64 yh)).setCell ⟨w.heap.size + 4, 1, none⟩ (.int .i64 yt)).setCell ⟨w.heap.size + 4, 2, none⟩ (.string ya)).setCell ⟨w.heap.size + 4, 3, none⟩ (.string yv)).setCell ⟨w.heap.size + 4, 4, none⟩ (.string yn)).setCell ⟨w.heap.size + 4, 5, none⟩ (.string yd)).setCell ⟨w.heap.size + 4, 6, none⟩ (.slice u l.length cu) = W := ⟨_, rfl⟩
    have hsz : w.heap.size + 4 < w2.heap.size := HA2.out.2.2.2.2.1.lt
    have HZ : Hid (Blk w9 (w.heap.size + 4) [.int .i64 yh, .int .i64 yt, .string ya, .string yv, .string yn, .string yd, .slice u l.length cu] 30) := by rw [← hw9]; exact (((((((HA3.out.2.2.2.2.1).set 0 _).set 1 _).set 2 _).set 3 _).set 4 _).set 5 _).set 6 _
    have HF : Below w.heap.size w w9 := by rw [← hw9]; exact (((((((HA3.out.2.2.2.2.2).setCell (show w.heap.size ≤ w.heap.size + 4 by omega) _).setCell (show w.heap.size ≤ w.heap.size + 4 by omega) _).setCell (show w.heap.size ≤ w.heap.size + 4 by omega) _).setCell (show w.heap.size ≤ w.heap.size + 4 by omega) _).setCell (show w.heap.size ≤ w.heap.size + 4 by omega) _).setCell (show w.heap.size ≤ w.heap.size + 4 by omega) _).setCell (show w.heap.size ≤ w.heap.size + 4 by omega) _
    have HO9 : Hid (OwnV w9 w.heap.size (.slice u l.length cu) l) := by rw [← hw9]; exact own_low (ownsRow_setCell_below (ownsRow_setCell_below (ownsRow_setCell_below (ownsRow_setCell_below (ownsRow_setCell_below (ownsRow_setCell_below (ownsRow_setCell_below HO.out (show w.heap.size + 4 < w2.heap.size from hsz) _) (show w.heap.size + 4 < w2.heap.size from hsz) _) (show w.heap.size + 4 < w2.heap.size from hsz) _) (show w.heap.size + 4 < w2.heap.size from hsz) _) (show w.heap.size + 4 < w2.heap.size from hsz) _) (show w.heap.size + 4 < w2.heap.size from hsz) _) (show w.heap.size + 4 < w2.heap.size from hsz) _) (by omega)
    have r0 := HZ.out.cell 0 rfl
    have r1 := HZ.out.cell 1 rfl
    have r2 := HZ.out.cell 2 rfl
    have r3 := HZ.out.cell 3 rfl
    have r4 := HZ.out.cell 4 rfl
    have r5 := HZ.out.cell 5 rfl
    have r6 := HZ.out.cell 6 rfl
    go_wp2
    try rw [hw9]
    refine bodyPost_ret (v := .tuple #[.agg #[.int .i64 yh, .int .i64 yt, .string ya, .string yv, .string yn, .string yd, .slice u l.length cu], .int .i64 1]) ?_ rfl ⟨_, _, rfl, HO9, HF⟩
    skip
    simp [results, Tryz.results8, go_sem, r0, r1, r2, r3, r4, r5, r6]
  · have hRR := HR true false true true rfl rfl rfl rfl
    have hN1 := HB hRR
    subst hN1
    rw [HA 1 (by decide)]
    simp only
    clear HR HB HA HX hRR kX kW h1 h2 h3 h4
    obtain ⟨tp, ts⟩ := t
    obtain ⟨yh, yt, ya, yv, yn, yd⟩ := y
    obtain ⟨h, t, aa, v, n, d⟩ := x
    obtain ⟨ch, cr, ci, cl⟩ := c
    unfold trV aV hV cV at *
    unfold fivW trcs acs hcs ccs at H0
    simp only at *
    have hflat : ∀ W, Fiv w W ⟨tp, ts⟩ ⟨yh, yt, ya, yv, yn, yd⟩ (.slice p l.length cap) ⟨h, t, aa, v, n, d⟩ ⟨ch, cr, ci, cl⟩ b cb → (W.cell? ⟨w.heap.size, 0, none⟩ = some (.int .i64 tp) ∧ W.cell? ⟨w.heap.size, 1, none⟩ = some (.int .i64 ts)) ∧ (W.cell? ⟨w.heap.size + 1, 0, none⟩ = some (.int .i64 yh) ∧ W.cell? ⟨w.heap.size + 1, 1, none⟩ = some (.int .i64 yt) ∧ W.cell? ⟨w.heap.size + 1, 2, none⟩ = some (.string ya) ∧ W.cell? ⟨w.heap.size + 1, 3, none⟩ = some (.string yv) ∧ W.cell? ⟨w.heap.size + 1, 4, none⟩ = some (.string yn) ∧ W.cell? ⟨w.heap.size + 1, 5, none⟩ = some (.string yd) ∧ W.cell? ⟨w.heap.size + 1, 6, none⟩ = some (.slice p l.length cap)) ∧ (W.cell? ⟨w.heap.size + 2, 0, none⟩ = some (.int .i64 h) ∧ W.cell? ⟨w.heap.size + 2, 1, none⟩ = some (.int .i64 t) ∧ W.cell? ⟨w.heap.size + 2, 2, none⟩ = some (.string aa) ∧ W.cell? ⟨w.heap.size + 2, 3, none⟩ = some (.string v) ∧ W.cell? ⟨w.heap.size + 2, 4, none⟩ = some (.string n) ∧ W.cell? ⟨w.heap.size + 2, 5, none⟩ = some (.string d)) ∧ (W.cell? ⟨w.heap.size + 3, 0, none⟩ = some (.int .i64 ch) ∧ W.cell? ⟨w.heap.size + 3, 1, none⟩ = some (.int .i64 cr) ∧ W.cell? ⟨w.heap.size + 3, 2, none⟩ = some (.string ci) ∧ W.cell? ⟨w.heap.size + 3, 3, none⟩ = some (.slice b cl.length cb)) ∧ (W.cell? ⟨w.heap.size + 4, 0, none⟩ = some (.int .i64 0) ∧ W.cell? ⟨w.heap.size + 4, 1, none⟩ = some (.int .i64 0) ∧ W.cell? ⟨w.heap.size + 4, 2, none⟩ = some (.string ⟨#[]⟩) ∧ W.cell? ⟨w.heap.size + 4, 3, none⟩ = some (.string ⟨#[]⟩) ∧ W.cell? ⟨w.heap.size + 4, 4, none⟩ = some (.string ⟨#[]⟩) ∧ W.cell? ⟨w.heap.size + 4, 5, none⟩ = some (.string ⟨#[]⟩) ∧ W.cell? ⟨w.heap.size + 4, 6, none⟩ = some (.slice none 0 0)) ∧ (W.frozen? ⟨w.heap.size + 4, 0, none⟩ = false ∧ W.frozen? ⟨w.heap.size + 4, 1, none⟩ = false ∧ W.frozen? ⟨w.heap.size + 4, 2, none⟩ = false ∧ W.frozen? ⟨w.heap.size + 4, 3, none⟩ = false ∧ W.frozen? ⟨w.heap.size + 4, 4, none⟩ = false ∧ W.frozen? ⟨w.heap.size + 4, 5, none⟩ = false ∧ W.frozen? ⟨w.heap.size + 4, 6, none⟩ = false) := fun W h => ⟨⟨h.1.cell 0 rfl, h.1.cell 1 rfl⟩, ⟨h.2.1.cell 0 rfl, h.2.1.cell 1 rfl, h.2.1.cell 2 rfl, h.2.1.cell 3 rfl, h.2.1.cell 4 rfl, h.2.1.cell 5 rfl, h.2.1.cell 6 rfl⟩, ⟨h.2.2.1.cell 0 rfl, h.2.2.1.cell 1 rfl, h.2.2.1.cell 2 rfl, h.2.2.1.cell 3 rfl, h.2.2.1.cell 4 rfl, h.2.2.1.cell 5 rfl⟩, ⟨h.2.2.2.1.cell 0 rfl, h.2.2.2.1.cell 1 rfl, h.2.2.2.1.cell 2 rfl, h.2.2.2.1.cell 3 rfl⟩, ⟨h.2.2.2.2.1.cell 0 rfl, h.2.2.2.2.1.cell 1 rfl, h.2.2.2.2.1.cell 2 rfl, h.2.2.2.2.1.cell 3 rfl, h.2.2.2.2.1.cell 4 rfl, h.2.2.2.2.1.cell 5 rfl, h.2.2.2.2.1.cell 6 rfl⟩, ⟨h.2.2.2.2.1.frozen 0, h.2.2.2.2.1.frozen 1, h.2.2.2.2.1.frozen 2, h.2.2.2.2.1.frozen 3, h.2.2.2.2.1.frozen 4, h.2.2.2.2.1.frozen 5, h.2.2.2.2.1.frozen 6⟩⟩
    obtain ⟨w0, hw0⟩ : ∃ W, ((((w.alloc (Obj.cells #[Value.int .i64 tp, Value.int .i64 ts] 25)).alloc (Obj.cells #[Value.int .i64 yh, Value.int .i64 yt, Value.string ya, Value.string yv, Value.string yn, Value.string yd, Value.slice p l.length cap] 30)).alloc (Obj.cells #[Value.int .i64 h, Value.int .i64 t, Value.string aa, Value.string v, Value.string n, Value.string d] 27)).alloc (Obj.cells #[Value.int .i64 ch, Value.int .i64 cr, Value.string ci, Value.slice b cl.length cb] 33)).alloc (Obj.cells #[Value.int .i64 0, Value.int .i64 0, Value.string ⟨#[]⟩, Value.string ⟨#[]⟩, Value.string ⟨#[]⟩, Value.string ⟨#[]⟩, Value.slice none 0 0] 30) = W := ⟨_, rfl⟩
    have HA0 : Hid (Fiv w w0 ⟨tp, ts⟩ ⟨yh, yt, ya, yv, yn, yd⟩ (.slice p l.length cap) ⟨h, t, aa, v, n, d⟩ ⟨ch, cr, ci, cl⟩ b cb) := by rw [← hw0]; exact H0.out
    clear H0
    obtain ⟨⟨at0, at1⟩, ⟨ay0, ay1, ay2, ay3, ay4, ay5, ay6⟩, ⟨ax0, ax1, ax2, ax3, ax4, ax5⟩, ⟨ac0, ac1, ac2, ac3⟩, ⟨az0, az1, az2, az3, az4, az5, az6⟩, ⟨fz0, fz1, fz2, fz3, fz4, fz5, fz6⟩⟩ := hflat _ HA0.out
    go_enter Tryz.func8, Tryz.ntmps8
    go_wp2_with fail
    try rw [hw0]
    refine (k1 _).mono ?_
    rintro e w1 ⟨rfl, bb⟩
    have HA1 : Hid (Fiv w w1 ⟨tp, ts⟩ ⟨yh, yt, ya, yv, yn, yd⟩ (.slice p l.length cap) ⟨h, t, aa, v, n, d⟩ ⟨ch, cr, ci, cl⟩ b cb) := HA0.out.step bb
    clear at0 at1 ay0 ay1 ay2 ay3 ay4 ay5 ay6 ax0 ax1 ax2 ax3 ax4 ax5 ac0 ac1 ac2 ac3 az0 az1 az2 az3 az4 az5 az6 fz0 fz1 fz2 fz3 fz4 fz5 fz6 bb HA0 hw0
    obtain ⟨⟨at0, at1⟩, ⟨ay0, ay1, ay2, ay3, ay4, ay5, ay6⟩, ⟨ax0, ax1, ax2, ax3, ax4, ax5⟩, ⟨ac0, ac1, ac2, ac3⟩, ⟨az0, az1, az2, az3, az4, az5, az6⟩, ⟨fz0, fz1, fz2, fz3, fz4, fz5, fz6⟩⟩ := hflat _ HA1.out
    go_wp2_with fail
    refine (k2 _ (HL.out.below HA1.out.2.2.2.2.2)).mono ?_
    rintro e w2 ⟨rfl, bb⟩
    have HA2 : Hid (Fiv w w2 ⟨tp, ts⟩ ⟨yh, yt, ya, yv, yn, yd⟩ (.slice p l.length cap) ⟨h, t, aa, v, n, d⟩ ⟨ch, cr, ci, cl⟩ b cb) := HA1.out.step bb
    clear at0 at1 ay0 ay1 ay2 ay3 ay4 ay5 ay6 ax0 ax1 ax2 ax3 ax4 ax5 ac0 ac1 ac2 ac3 az0 az1 az2 az3 az4 az5 az6 fz0 fz1 fz2 fz3 fz4 fz5 fz6 bb HA1
    obtain ⟨⟨at0, at1⟩, ⟨ay0, ay1, ay2, ay3, ay4, ay5, ay6⟩, ⟨ax0, ax1, ax2, ax3, ax4, ax5⟩, ⟨ac0, ac1, ac2, ac3⟩, ⟨az0, az1, az2, az3, az4, az5, az6⟩, ⟨fz0, fz1, fz2, fz3, fz4, fz5, fz6⟩⟩ := hflat _ HA2.out
    go_wp2_with fail
    refine (kA _ (HL.out.below HA2.out.2.2.2.2.2)).mono ?_
    rintro e w3 ⟨u, cu, rfl, HO, bb⟩
    have HA3 : Hid (Fiv w w3 ⟨tp, ts⟩ ⟨yh, yt, ya, yv, yn, yd⟩ (.slice p l.length cap) ⟨h, t, aa, v, n, d⟩ ⟨ch, cr, ci, cl⟩ b cb) := HA2.out.step bb
    clear at0 at1 ay0 ay1 ay2 ay3 ay4 ay5 ay6 ax0 ax1 ax2 ax3 ax4 ax5 ac0 ac1 ac2 ac3 az0 az1 az2 az3 az4 az5 az6 fz0 fz1 fz2 fz3 fz4 fz5 fz6 bb
    obtain ⟨⟨at0, at1⟩, ⟨ay0, ay1, ay2, ay3, ay4, ay5, ay6⟩, ⟨ax0, ax1, ax2, ax3, ax4, ax5⟩, ⟨ac0, ac1, ac2, ac3⟩, ⟨az0, az1, az2, az3, az4, az5, az6⟩, ⟨fz0, fz1, fz2, fz3, fz4, fz5, fz6⟩⟩ := hflat _ HA3.out
    obtain ⟨w9, hw9⟩ : ∃ W, (((((((w3).setCell ⟨w.heap.size + 4, 0, none⟩ (.int .i64 yh)).setCell ⟨w.heap.size + 4, 1, none⟩ (.int .i64 yt)).setCell ⟨w.heap.size + 4, 2, none⟩ (.string ya)).setCell ⟨w.heap.size + 4, 3, none⟩ (.string yv)).setCell ⟨w.heap.size + 4, 4, none⟩ (.string yn)).setCell ⟨w.heap.size + 4, 5, none⟩ (.string yd)).setCell ⟨w.heap.size + 4, 6, none⟩ (.slice u l.length cu) = W := ⟨_, rfl⟩
    have hsz : w.heap.size + 4 < w2.heap.size := HA2.out.2.2.2.2.1.lt
    have HZ : Hid (Blk w9 (w.heap.size + 4) [.int .i64 yh, .int .i64 yt, .string ya, .string yv, .string yn, .string yd, .slice u l.length cu] 30) := by rw [← hw9]; exact (((((((HA3.out.2.2.2.2.1).set 0 _).set 1 _).set 2 _).set 3 _).set 4 _).set 5 _).set 6 _
    have HF : Below w.heap.size w w9 := by rw [← hw9]; exact (((((((HA3.out.2.2.2.2.2).setCell (show w.heap.size ≤ w.heap.size + 4 by omega) _).setCell (show w.heap.size ≤ w.heap.size + 4 by omega) _).setCell (show w.heap.size ≤ w.heap.size + 4 by omega) _).setCell (show w.heap.size ≤ w.heap.size + 4 by omega) _).setCell (show w.heap.size ≤ w.heap.size + 4 by omega) _).setCell (show w.heap.size ≤ w.heap.size + 4 by omega) _).setCell (show w.heap.size ≤ w.heap.size + 4 by omega) _
    have HO9 : Hid (OwnV w9 w.heap.size (.slice u l.length cu) l) := by rw [← hw9]; exact own_low (ownsRow_setCell_below (ownsRow_setCell_below (ownsRow_setCell_below (ownsRow_setCell_below (ownsRow_setCell_below (ownsRow_setCell_below (ownsRow_setCell_below HO.out (show w.heap.size + 4 < w2.heap.size from hsz) _) (show w.heap.size + 4 < w2.heap.size from hsz) _) (show w.heap.size + 4 < w2.heap.size from hsz) _) (show w.heap.size + 4 < w2.heap.size from hsz) _) (show w.heap.size + 4 < w2.heap.size from hsz) _) (show w.heap.size + 4 < w2.heap.size from hsz) _) (show w.heap.size + 4 < w2.heap.size from hsz) _) (by omega)
    have r0 := HZ.out.cell 0 rfl
    have r1 := HZ.out.cell 1 rfl
    have r2 := HZ.out.cell 2 rfl
    have r3 := HZ.out.cell 3 rfl
    have r4 := HZ.out.cell 4 rfl
    have r5 := HZ.out.cell 5 rfl
    have r6 := HZ.out.cell 6 rfl
    go_wp2
    try rw [hw9]
    refine bodyPost_ret (v := .tuple #[.agg #[.int .i64 yh, .int .i64 yt, .string ya, .string yv, .string yn, .string yd, .slice u l.length cu], .int .i64 1]) ?_ rfl ⟨_, _, rfl, HO9, HF⟩
    skip
    simp [results, Tryz.results8, go_sem, r0, r1, r2, r3, r4, r5, r6]
  · have hRR := HR true true false false rfl rfl rfl rfl
    have hN1 := HB hRR
    subst hN1
    rw [HA 1 (by decide)]
    simp only
    clear HR HB HA HX hRR kX kW h1 h2 h3 h4
    obtain ⟨tp, ts⟩ := t
    obtain ⟨yh, yt, ya, yv, yn, yd⟩ := y
    obtain ⟨h, t, aa, v, n, d⟩ := x
    obtain ⟨ch, cr, ci, cl⟩ := c
    unfold trV aV hV cV at *
    unfold fivW trcs acs hcs ccs at H0
    simp only at *
    have hflat : ∀ W, Fiv w W ⟨tp, ts⟩ ⟨yh, yt, ya, yv, yn, yd⟩ (.slice p l.length cap) ⟨h, t, aa, v, n, d⟩ ⟨ch, cr, ci, cl⟩ b cb → (W.cell? ⟨w.heap.size, 0, none⟩ = some (.int .i64 tp) ∧ W.cell? ⟨w.heap.size, 1, none⟩ = some (.int .i64 ts)) ∧ (W.cell? ⟨w.heap.size + 1, 0, none⟩ = some (.int .i64 yh) ∧ W.cell? ⟨w.heap.size + 1, 1, none⟩ = some (.int .i64 yt) ∧ W.cell? ⟨w.heap.size + 1, 2, none⟩ = some (.string ya) ∧ W.cell? ⟨w.heap.size + 1, 3, none⟩ = some (.string yv) ∧ W.cell? ⟨w.heap.size + 1, 4, none⟩ = some (.string yn) ∧ W.cell? ⟨w.heap.size + 1, 5, none⟩ = some (.string yd) ∧ W.cell? ⟨w.heap.size + 1, 6, none⟩ = some (.slice p l.length cap)) ∧ (W.cell? ⟨w.heap.size + 2, 0, none⟩ = some (.int .i64 h) ∧ W.cell? ⟨w.heap.size + 2, 1, none⟩ = some (.int .i64 t) ∧ W.cell? ⟨w.heap.size + 2, 2, none⟩ = some (.string aa) ∧ W.cell? ⟨w.heap.size + 2, 3, none⟩ = some (.string v) ∧ W.cell? ⟨w.heap.size + 2, 4, none⟩ = some (.string n) ∧ W.cell? ⟨w.heap.size + 2, 5, none⟩ = some (.string d)) ∧ (W.cell? ⟨w.heap.size + 3, 0, none⟩ = some (.int .i64 ch) ∧ W.cell? ⟨w.heap.size + 3, 1, none⟩ = some (.int .i64 cr) ∧ W.cell? ⟨w.heap.size + 3, 2, none⟩ = some (.string ci) ∧ W.cell? ⟨w.heap.size + 3, 3, none⟩ = some (.slice b cl.length cb)) ∧ (W.cell? ⟨w.heap.size + 4, 0, none⟩ = some (.int .i64 0) ∧ W.cell? ⟨w.heap.size + 4, 1, none⟩ = some (.int .i64 0) ∧ W.cell? ⟨w.heap.size + 4, 2, none⟩ = some (.string ⟨#[]⟩) ∧ W.cell? ⟨w.heap.size + 4, 3, none⟩ = some (.string ⟨#[]⟩) ∧ W.cell? ⟨w.heap.size + 4, 4, none⟩ = some (.string ⟨#[]⟩) ∧ W.cell? ⟨w.heap.size + 4, 5, none⟩ = some (.string ⟨#[]⟩) ∧ W.cell? ⟨w.heap.size + 4, 6, none⟩ = some (.slice none 0 0)) ∧ (W.frozen? ⟨w.heap.size + 4, 0, none⟩ = false ∧ W.frozen? ⟨w.heap.size + 4, 1, none⟩ = false ∧ W.frozen? ⟨w.heap.size + 4, 2, none⟩ = false ∧ W.frozen? ⟨w.heap.size + 4, 3, none⟩ = false ∧ W.frozen? ⟨w.heap.size + 4, 4, none⟩ = false ∧ W.frozen? ⟨w.heap.size + 4, 5, none⟩ = false ∧ W.frozen? ⟨w.heap.size + 4, 6, none⟩ = false) := fun W h => ⟨⟨h.1.cell 0 rfl, h.1.cell 1 rfl⟩, ⟨h.2.1.cell 0 rfl, h.2.1.cell 1 rfl, h.2.1.cell 2 rfl, h.2.1.cell 3 rfl, h.2.1.cell 4 rfl, h.2.1.cell 5 rfl, h.2.1.cell 6 rfl⟩, ⟨h.2.2.1.cell 0 rfl, h.2.2.1.cell 1 rfl, h.2.2.1.cell 2 rfl, h.2.2.1.cell 3 rfl, h.2.2.1.cell 4 rfl, h.2.2.1.cell 5 rfl⟩, ⟨h.2.2.2.1.cell 0 rfl, h.2.2.2.1.cell 1 rfl, h.2.2.2.1.cell 2 rfl, h.2.2.2.1.cell 3 rfl⟩, ⟨h.2.2.2.2.1.cell 0 rfl, h.2.2.2.2.1.cell 1 rfl, h.2.2.2.2.1.cell 2 rfl, h.2.2.2.2.1.cell 3 rfl, h.2.2.2.2.1.cell 4 rfl, h.2.2.2.2.1.cell 5 rfl, h.2.2.2.2.1.cell 6 rfl⟩, ⟨h.2.2.2.2.1.frozen 0, h.2.2.2.2.1.frozen 1, h.2.2.2.2.1.frozen 2, h.2.2.2.2.1.frozen 3, h.2.2.2.2.1.frozen 4, h.2.2.2.2.1.frozen 5, h.2.2.2.2.1.frozen 6⟩⟩
    obtain ⟨w0, hw0⟩ : ∃ W, ((((w.alloc (Obj.cells #[Value.int .i64 tp, Value.int .i64 ts] 25)).alloc (Obj.cells #[Value.int .i64 yh, Value.int .i64 yt, Value.string ya, Value.string yv, Value.string yn, Value.string yd, Value.slice p l.length cap] 30)).alloc (Obj.cells #[Value.int .i64 h, Value.int .i64 t, Value.string aa, Value.string v, Value.string n, Value.string d] 27)).alloc (Obj.cells #[Value.int .i64 ch, Value.int .i64 cr, Value.string ci, Value.slice b cl.length cb] 33)).alloc (Obj.cells #[Value.int .i64 0, Value.int .i64 0, Value.string ⟨#[]⟩, Value.string ⟨#[]⟩, Value.string ⟨#[]⟩, Value.string ⟨#[]⟩, Value.slice none 0 0] 30) = W := ⟨_, rfl⟩
    have HA0 : Hid (Fiv w w0 ⟨tp, ts⟩ ⟨yh, yt, ya, yv, yn, yd⟩ (.slice p l.length cap) ⟨h, t, aa, v, n, d⟩ ⟨ch, cr, ci, cl⟩ b cb) := by rw [← hw0]; exact H0.out
    clear H0
    obtain ⟨⟨at0, at1⟩, ⟨ay0, ay1, ay2, ay3, ay4, ay5, ay6⟩, ⟨ax0, ax1, ax2, ax3, ax4, ax5⟩, ⟨ac0, ac1, ac2, ac3⟩, ⟨az0, az1, az2, az3, az4, az5, az6⟩, ⟨fz0, fz1, fz2, fz3, fz4, fz5, fz6⟩⟩ := hflat _ HA0.out
    go_enter Tryz.func8, Tryz.ntmps8
    go_wp2_with fail
    try rw [hw0]
    refine (k1 _).mono ?_
    rintro e w1 ⟨rfl, bb⟩
    have HA1 : Hid (Fiv w w1 ⟨tp, ts⟩ ⟨yh, yt, ya, yv, yn, yd⟩ (.slice p l.length cap) ⟨h, t, aa, v, n, d⟩ ⟨ch, cr, ci, cl⟩ b cb) := HA0.out.step bb
    clear at0 at1 ay0 ay1 ay2 ay3 ay4 ay5 ay6 ax0 ax1 ax2 ax3 ax4 ax5 ac0 ac1 ac2 ac3 az0 az1 az2 az3 az4 az5 az6 fz0 fz1 fz2 fz3 fz4 fz5 fz6 bb HA0 hw0
    obtain ⟨⟨at0, at1⟩, ⟨ay0, ay1, ay2, ay3, ay4, ay5, ay6⟩, ⟨ax0, ax1, ax2, ax3, ax4, ax5⟩, ⟨ac0, ac1, ac2, ac3⟩, ⟨az0, az1, az2, az3, az4, az5, az6⟩, ⟨fz0, fz1, fz2, fz3, fz4, fz5, fz6⟩⟩ := hflat _ HA1.out
    go_wp2_with fail
    refine (k2 _ (HL.out.below HA1.out.2.2.2.2.2)).mono ?_
    rintro e w2 ⟨rfl, bb⟩
    have HA2 : Hid (Fiv w w2 ⟨tp, ts⟩ ⟨yh, yt, ya, yv, yn, yd⟩ (.slice p l.length cap) ⟨h, t, aa, v, n, d⟩ ⟨ch, cr, ci, cl⟩ b cb) := HA1.out.step bb
    clear at0 at1 ay0 ay1 ay2 ay3 ay4 ay5 ay6 ax0 ax1 ax2 ax3 ax4 ax5 ac0 ac1 ac2 ac3 az0 az1 az2 az3 az4 az5 az6 fz0 fz1 fz2 fz3 fz4 fz5 fz6 bb HA1
    obtain ⟨⟨at0, at1⟩, ⟨ay0, ay1, ay2, ay3, ay4, ay5, ay6⟩, ⟨ax0, ax1, ax2, ax3, ax4, ax5⟩, ⟨ac0, ac1, ac2, ac3⟩, ⟨az0, az1, az2, az3, az4, az5, az6⟩, ⟨fz0, fz1, fz2, fz3, fz4, fz5, fz6⟩⟩ := hflat _ HA2.out
    go_wp2_with fail
    refine (k3 _).mono ?_
    rintro e w3 ⟨rfl, bb⟩
    have HA3 : Hid (Fiv w w3 ⟨tp, ts⟩ ⟨yh, yt, ya, yv, yn, yd⟩ (.slice p l.length cap) ⟨h, t, aa, v, n, d⟩ ⟨ch, cr, ci, cl⟩ b cb) := HA2.out.step bb
    clear at0 at1 ay0 ay1 ay2 ay3 ay4 ay5 ay6 ax0 ax1 ax2 ax3 ax4 ax5 ac0 ac1 ac2 ac3 az0 az1 az2 az3 az4 az5 az6 fz0 fz1 fz2 fz3 fz4 fz5 fz6 bb HA2
    obtain ⟨⟨at0, at1⟩, ⟨ay0, ay1, ay2, ay3, ay4, ay5, ay6⟩, ⟨ax0, ax1, ax2, ax3, ax4, ax5⟩, ⟨ac0, ac1, ac2, ac3⟩, ⟨az0, az1, az2, az3, az4, az5, az6⟩, ⟨fz0, fz1, fz2, fz3, fz4, fz5, fz6⟩⟩ := hflat _ HA3.out
    go_wp2_with fail
    refine (kA _ (HL.out.below HA3.out.2.2.2.2.2)).mono ?_
    rintro e w4 ⟨u, cu, rfl, HO, bb⟩
    have HA4 : Hid (Fiv w w4 ⟨tp, ts⟩ ⟨yh, yt, ya, yv, yn, yd⟩ (.slice p l.length cap) ⟨h, t, aa, v, n, d⟩ ⟨ch, cr, ci, cl⟩ b cb) := HA3.out.step bb
    clear at0 at1 ay0 ay1 ay2 ay3 ay4 ay5 ay6 ax0 ax1 ax2 ax3 ax4 ax5 ac0 ac1 ac2 ac3 az0 az1 az2 az3 az4 az5 az6 fz0 fz1 fz2 fz3 fz4 fz5 fz6 bb
    obtain ⟨⟨at0, at1⟩, ⟨ay0, ay1, ay2, ay3, ay4, ay5, ay6⟩, ⟨ax0, ax1, ax2, ax3, ax4, ax5⟩, ⟨ac0, ac1, ac2, ac3⟩, ⟨az0, az1, az2, az3, az4, az5, az6⟩, ⟨fz0, fz1, fz2, fz3, fz4, fz5, fz6⟩⟩ := hflat _ HA4.out
    obtain ⟨w9, hw9⟩ : ∃ W, (((((((w4).setCell ⟨w.heap.size + 4, 0, none⟩ (.int .i64 yh)).setCell ⟨w.heap.size + 4, 1, none⟩ (.int .i64 yt)).setCell ⟨w.heap.size + 4, 2, none⟩ (.string ya)).setCell ⟨w.heap.size + 4, 3, none⟩ (.string yv)).setCell ⟨w.heap.size + 4, 4, none⟩ (.string yn)).setCell ⟨w.heap.size + 4, 5, none⟩ (.string yd)).setCell ⟨w.heap.size + 4, 6, none⟩ (.slice u l.length cu) = W := ⟨_, rfl⟩
    have hsz : w.heap.size + 4 < w3.heap.size := HA3.out.2.2.2.2.1.lt
    have HZ : Hid (Blk w9 (w.heap.size + 4) [.int .i64 yh, .int .i64 yt, .string ya, .string yv, .string yn, .string yd, .slice u l.length cu] 30) := by rw [← hw9]; exact (((((((HA4.out.2.2.2.2.1).set 0 _).set 1 _).set 2 _).set 3 _).set 4 _).set 5 _).set 6 _
    have HF : Below w.heap.size w w9 := by rw [← hw9]; exact (((((((HA4.out.2.2.2.2.2).setCell (show w.heap.size ≤ w.heap.size + 4 by omega) _).setCell (show w.heap.size ≤ w.heap.size + 4 by omega) _).setCell (show w.heap.size ≤ w.heap.size + 4 by omega) _).setCell (show w.heap.size ≤ w.heap.size + 4 by omega) _).setCell (show w.heap.size ≤ w.heap.size + 4 by omega) _).setCell (show w.heap.size ≤ w.heap.size + 4 by omega) _).setCell (show w.heap.size ≤ w.heap.size + 4 by omega) _
    have HO9 : Hid (OwnV w9 w.heap.size (.slice u l.length cu) l) := by rw [← hw9]; exact own_low (ownsRow_setCell_below (ownsRow_setCell_below (ownsRow_setCell_below (ownsRow_setCell_below (ownsRow_setCell_below (ownsRow_setCell_below (ownsRow_setCell_below HO.out (show w.heap.size + 4 < w3.heap.size from hsz) _) (show w.heap.size + 4 < w3.heap.size from hsz) _) (show w.heap.size + 4 < w3.heap.size from hsz) _) (show w.heap.size + 4 < w3.heap.size from hsz) _) (show w.heap.size + 4 < w3.heap.size from hsz) _) (show w.heap.size + 4 < w3.heap.size from hsz) _) (show w.heap.size + 4 < w3.heap.size from hsz) _) (by omega)
    have r0 := HZ.out.cell 0 rfl
    have r1 := HZ.out.cell 1 rfl
    have r2 := HZ.out.cell 2 rfl
    have r3 := HZ.out.cell 3 rfl
    have r4 := HZ.out.cell 4 rfl
    have r5 := HZ.out.cell 5 rfl
    have r6 := HZ.out.cell 6 rfl
    go_wp2
    try rw [hw9]
    refine bodyPost_ret (v := .tuple #[.agg #[.int .i64 yh, .int .i64 yt, .string ya, .string yv, .string yn, .string yd, .slice u l.length cu], .int .i64 1]) ?_ rfl ⟨_, _, rfl, HO9, HF⟩
    skip
    simp [results, Tryz.results8, go_sem, r0, r1, r2, r3, r4, r5, r6]
  · have hRR := HR true true false true rfl rfl rfl rfl
    have hN1 := HB hRR
    subst hN1
    rw [HA 1 (by decide)]
    simp only
    clear HR HB HA HX hRR kX kW h1 h2 h3 h4
    obtain ⟨tp, ts⟩ := t
    obtain ⟨yh, yt, ya, yv, yn, yd⟩ := y
    obtain ⟨h, t, aa, v, n, d⟩ := x
    obtain ⟨ch, cr, ci, cl⟩ := c
    unfold trV aV hV cV at *
    unfold fivW trcs acs hcs ccs at H0
    simp only at *
    have hflat : ∀ W, Fiv w W ⟨tp, ts⟩ ⟨yh, yt, ya, yv, yn, yd⟩ (.slice p l.length cap) ⟨h, t, aa, v, n, d⟩ ⟨ch, cr, ci, cl⟩ b cb → (W.cell? ⟨w.heap.size, 0, none⟩ = some (.int .i64 tp) ∧ W.cell? ⟨w.heap.size, 1, none⟩ = some (.int .i64 ts)) ∧ (W.cell? ⟨w.heap.size + 1, 0, none⟩ = some (.int .i64 yh) ∧ W.cell? ⟨w.heap.size + 1, 1, none⟩ = some (.int .i64 yt) ∧ W.cell? ⟨w.heap.size + 1, 2, none⟩ = some (.string ya) ∧ W.cell? ⟨w.heap.size + 1, 3, none⟩ = some (.string yv) ∧ W.cell? ⟨w.heap.size + 1, 4, none⟩ = some (.string yn) ∧ W.cell? ⟨w.heap.size + 1, 5, none⟩ = some (.string yd) ∧ W.cell? ⟨w.heap.size + 1, 6, none⟩ = some (.slice p l.length cap)) ∧ (W.cell? ⟨w.heap.size + 2, 0, none⟩ = some (.int .i64 h) ∧ W.cell? ⟨w.heap.size + 2, 1, none⟩ = some (.int .i64 t) ∧ W.cell? ⟨w.heap.size + 2, 2, none⟩ = some (.string aa) ∧ W.cell? ⟨w.heap.size + 2, 3, none⟩ = some (.string v) ∧ W.cell? ⟨w.heap.size + 2, 4, none⟩ = some (.string n) ∧ W.cell? ⟨w.heap.size + 2, 5, none⟩ = some (.string d)) ∧ (W.cell? ⟨w.heap.size + 3, 0, none⟩ = some (.int .i64 ch) ∧ W.cell? ⟨w.heap.size + 3, 1, none⟩ = some (.int .i64 cr) ∧ W.cell? ⟨w.heap.size + 3, 2, none⟩ = some (.string ci) ∧ W.cell? ⟨w.heap.size + 3, 3, none⟩ = some (.slice b cl.length cb)) ∧ (W.cell? ⟨w.heap.size + 4, 0, none⟩ = some (.int .i64 0) ∧ W.cell? ⟨w.heap.size + 4, 1, none⟩ = some (.int .i64 0) ∧ W.cell? ⟨w.heap.size + 4, 2, none⟩ = some (.string ⟨#[]⟩) ∧ W.cell? ⟨w.heap.size + 4, 3, none⟩ = some (.string ⟨#[]⟩) ∧ W.cell? ⟨w.heap.size + 4, 4, none⟩ = some (.string ⟨#[]⟩) ∧ W.cell? ⟨w.heap.size + 4, 5, none⟩ = some (.string ⟨#[]⟩) ∧ W.cell? ⟨w.heap.size + 4, 6, none⟩ = some (.slice none 0 0)) ∧ (W.frozen? ⟨w.heap.size + 4, 0, none⟩ = false ∧ W.frozen? ⟨w.heap.size + 4, 1, none⟩ = false ∧ W.frozen? ⟨w.heap.size + 4, 2, none⟩ = false ∧ W.frozen? ⟨w.heap.size + 4, 3, none⟩ = false ∧ W.frozen? ⟨w.heap.size + 4, 4, none⟩ = false ∧ W.frozen? ⟨w.heap.size + 4, 5, none⟩ = false ∧ W.frozen? ⟨w.heap.size + 4, 6, none⟩ = false) := fun W h => ⟨⟨h.1.cell 0 rfl, h.1.cell 1 rfl⟩, ⟨h.2.1.cell 0 rfl, h.2.1.cell 1 rfl, h.2.1.cell 2 rfl, h.2.1.cell 3 rfl, h.2.1.cell 4 rfl, h.2.1.cell 5 rfl, h.2.1.cell 6 rfl⟩, ⟨h.2.2.1.cell 0 rfl, h.2.2.1.cell 1 rfl, h.2.2.1.cell 2 rfl, h.2.2.1.cell 3 rfl, h.2.2.1.cell 4 rfl, h.2.2.1.cell 5 rfl⟩, ⟨h.2.2.2.1.cell 0 rfl, h.2.2.2.1.cell 1 rfl, h.2.2.2.1.cell 2 rfl, h.2.2.2.1.cell 3 rfl⟩, ⟨h.2.2.2.2.1.cell 0 rfl, h.2.2.2.2.1.cell 1 rfl, h.2.2.2.2.1.cell 2 rfl, h.2.2.2.2.1.cell 3 rfl, h.2.2.2.2.1.cell 4 rfl, h.2.2.2.2.1.cell 5 rfl, h.2.2.2.2.1.cell 6 rfl⟩, ⟨h.2.2.2.2.1.frozen 0, h.2.2.2.2.1.frozen 1, h.2.2.2.2.1.frozen 2, h.2.2.2.2.1.frozen 3, h.2.2.2.2.1.frozen 4, h.2.2.2.2.1.frozen 5, h.2.2.2.2.1.frozen 6⟩⟩
    obtain ⟨w0, hw0⟩ : ∃ W, ((((w.alloc (Obj.cells #[Value.int .i64 tp, Value.int .i64 ts] 25)).alloc (Obj.cells #[Value.int .i64 yh, Value.int .i64 yt, Value.string ya, Value.string yv, Value.string yn, Value.string yd, Value.slice p l.length cap] 30)).alloc (Obj.cells #[Value.int .i64 h, Value.int .i64 t, Value.string aa, Value.string v, Value.string n, Value.string d] 27)).alloc (Obj.cells #[Value.int .i64 ch, Value.int .i64 cr, Value.string ci, Value.slice b cl.length cb] 33)).alloc (Obj.cells #[Value.int .i64 0, Value.int .i64 0, Value.string ⟨#[]⟩, Value.string ⟨#[]⟩, Value.string ⟨#[]⟩, Value.string ⟨#[]⟩, Value.slice none 0 0] 30) = W := ⟨_, rfl⟩
    have HA0 : Hid (Fiv w w0 ⟨tp, ts⟩ ⟨yh, yt, ya, yv, yn, yd⟩ (.slice p l.length cap) ⟨h, t, aa, v, n, d⟩ ⟨ch, cr, ci, cl⟩ b cb) := by rw [← hw0]; exact H0.out
    clear H0
    obtain ⟨⟨at0, at1⟩, ⟨ay0, ay1, ay2, ay3, ay4, ay5, ay6⟩, ⟨ax0, ax1, ax2, ax3, ax4, ax5⟩, ⟨ac0, ac1, ac2, ac3⟩, ⟨az0, az1, az2, az3, az4, az5, az6⟩, ⟨fz0, fz1, fz2, fz3, fz4, fz5, fz6⟩⟩ := hflat _ HA0.out
    go_enter Tryz.func8, Tryz.ntmps8
    go_wp2_with fail
    try rw [hw0]
    refine (k1 _).mono ?_
    rintro e w1 ⟨rfl, bb⟩
    have HA1 : Hid (Fiv w w1 ⟨tp, ts⟩ ⟨yh, yt, ya, yv, yn, yd⟩ (.slice p l.length cap) ⟨h, t, aa, v, n, d⟩ ⟨ch, cr, ci, cl⟩ b cb) := HA0.out.step bb
    clear at0 at1 ay0 ay1 ay2 ay3 ay4 ay5 ay6 ax0 ax1 ax2 ax3 ax4 ax5 ac0 ac1 ac2 ac3 az0 az1 az2 az3 az4 az5 az6 fz0 fz1 fz2 fz3 fz4 fz5 fz6 bb HA0 hw0
    obtain ⟨⟨at0, at1⟩, ⟨ay0, ay1, ay2, ay3, ay4, ay5, ay6⟩, ⟨ax0, ax1, ax2, ax3, ax4, ax5⟩, ⟨ac0, ac1, ac2, ac3⟩, ⟨az0, az1, az2, az3, az4, az5, az6⟩, ⟨fz0, fz1, fz2, fz3, fz4, fz5, fz6⟩⟩ := hflat _ HA1.out
    go_wp2_with fail
    refine (k2 _ (HL.out.below HA1.out.2.2.2.2.2)).mono ?_
    rintro e w2 ⟨rfl, bb⟩
    have HA2 : Hid (Fiv w w2 ⟨tp, ts⟩ ⟨yh, yt, ya, yv, yn, yd⟩ (.slice p l.length cap) ⟨h, t, aa, v, n, d⟩ ⟨ch, cr, ci, cl⟩ b cb) := HA1.out.step bb
    clear at0 at1 ay0 ay1 ay2 ay3 ay4 ay5 ay6 ax0 ax1 ax2 ax3 ax4 ax5 ac0 ac1 ac2 ac3 az0 az1 az2 az3 az4 az5 az6 fz0 fz1 fz2 fz3 fz4 fz5 fz6 bb HA1
    obtain ⟨⟨at0, at1⟩, ⟨ay0, ay1, ay2, ay3, ay4, ay5, ay6⟩, ⟨ax0, ax1, ax2, ax3, ax4, ax5⟩, ⟨ac0, ac1, ac2, ac3⟩, ⟨az0, az1, az2, az3, az4, az5, az6⟩, ⟨fz0, fz1, fz2, fz3, fz4, fz5, fz6⟩⟩ := hflat _ HA2.out
    go_wp2_with fail
    refine (k3 _).mono ?_
    rintro e w3 ⟨rfl, bb⟩
    have HA3 : Hid (Fiv w w3 ⟨tp, ts⟩ ⟨yh, yt, ya, yv, yn, yd⟩ (.slice p l.length cap) ⟨h, t, aa, v, n, d⟩ ⟨ch, cr, ci, cl⟩ b cb) := HA2.out.step bb
    clear at0 at1 ay0 ay1 ay2 ay3 ay4 ay5 ay6 ax0 ax1 ax2 ax3 ax4 ax5 ac0 ac1 ac2 ac3 az0 az1 az2 az3 az4 az5 az6 fz0 fz1 fz2 fz3 fz4 fz5 fz6 bb HA2
    obtain ⟨⟨at0, at1⟩, ⟨ay0, ay1, ay2, ay3, ay4, ay5, ay6⟩, ⟨ax0, ax1, ax2, ax3, ax4, ax5⟩, ⟨ac0, ac1, ac2, ac3⟩, ⟨az0, az1, az2, az3, az4, az5, az6⟩, ⟨fz0, fz1, fz2, fz3, fz4, fz5, fz6⟩⟩ := hflat _ HA3.out
    go_wp2_with fail
    refine (kA _ (HL.out.below HA3.out.2.2.2.2.2)).mono ?_
    rintro e w4 ⟨u, cu, rfl, HO, bb⟩
    have HA4 : Hid (Fiv w w4 ⟨tp, ts⟩ ⟨yh, yt, ya, yv, yn, yd⟩ (.slice p l.length cap) ⟨h, t, aa, v, n, d⟩ ⟨ch, cr, ci, cl⟩ b cb) := HA3.out.step bb
    clear at0 at1 ay0 ay1 ay2 ay3 ay4 ay5 ay6 ax0 ax1 ax2 ax3 ax4 ax5 ac0 ac1 ac2 ac3 az0 az1 az2 az3 az4 az5 az6 fz0 fz1 fz2 fz3 fz4 fz5 fz6 bb
    obtain ⟨⟨at0, at1⟩, ⟨ay0, ay1, ay2, ay3, ay4, ay5, ay6⟩, ⟨ax0, ax1, ax2, ax3, ax4, ax5⟩, ⟨ac0, ac1, ac2, ac3⟩, ⟨az0, az1, az2, az3, az4, az5, az6⟩, ⟨fz0, fz1, fz2, fz3, fz4, fz5, fz6⟩⟩ := hflat _ HA4.out
    obtain ⟨w9, hw9⟩ : ∃ W, (((((((w4).setCell ⟨w.heap.size + 4, 0, none⟩ (.int .i64 yh)).setCell ⟨w.heap.size + 4, 1, none⟩ (.int .i64 yt)).setCell ⟨w.heap.size + 4, 2, none⟩ (.string ya)).setCell ⟨w.heap.size + 4, 3, none⟩ (.string yv)).setCell ⟨w.heap.size + 4, 4, none⟩ (.string yn)).setCell ⟨w.heap.size + 4, 5, none⟩ (.string yd)).setCell ⟨w.heap.size + 4, 6, none⟩ (.slice u l.length cu) = W := ⟨_, rfl⟩
    have hsz : w.heap.size + 4 < w3.heap.size := HA3.out.2.2.2.2.1.lt
    have HZ : Hid (Blk w9 (w.heap.size + 4) [.int .i64 yh, .int .i64 yt, .string ya, .string yv, .string yn, .string yd, .slice u l.length cu] 30) := by rw [← hw9]; exact (((((((HA4.out.2.2.2.2.1).set 0 _).set 1 _).set 2 _).set 3 _).set 4 _).set 5 _).set 6 _
    have HF : Below w.heap.size w w9 := by rw [← hw9]; exact (((((((HA4.out.2.2.2.2.2).setCell (show w.heap.size ≤ w.heap.size + 4 by omega) _).setCell (show w.heap.size ≤ w.heap.size + 4 by omega) _).setCell (show w.heap.size ≤ w.heap.size + 4 by omega) _).setCell (show w.heap.size ≤ w.heap.size + 4 by omega) _).setCell (show w.heap.size ≤ w.heap.size + 4 by omega) _).setCell (show w.heap.size ≤ w.heap.size + 4 by omega) _).setCell (show w.heap.size ≤ w.heap.size + 4 by omega) _
    have HO9 : Hid (OwnV w9 w.heap.size (.slice u l.length cu) l) := by rw [← hw9]; exact own_low (ownsRow_setCell_below (ownsRow_setCell_below (ownsRow_setCell_below (ownsRow_setCell_below (ownsRow_setCell_below (ownsRow_setCell_below (ownsRow_setCell_below HO.out (show w.heap.size + 4 < w3.heap.size from hsz) _) (show w.heap.size + 4 < w3.heap.size from hsz) _) (show w.heap.size + 4 < w3.heap.size from hsz) _) (show w.heap.size + 4 < w3.heap.size from hsz) _) (show w.heap.size + 4 < w3.heap.size from hsz) _) (show w.heap.size + 4 < w3.heap.size from hsz) _) (show w.heap.size + 4 < w3.heap.size from hsz) _) (by omega)
    have r0 := HZ.out.cell 0 rfl
    have r1 := HZ.out.cell 1 rfl
    have r2 := HZ.out.cell 2 rfl
    have r3 := HZ.out.cell 3 rfl
    have r4 := HZ.out.cell 4 rfl
    have r5 := HZ.out.cell 5 rfl
    have r6 := HZ.out.cell 6 rfl
    go_wp2
    try rw [hw9]
    refine bodyPost_ret (v := .tuple #[.agg #[.int .i64 yh, .int .i64 yt, .string ya, .string yv, .string yn, .string yd, .slice u l.length cu], .int .i64 1]) ?_ rfl ⟨_, _, rfl, HO9, HF⟩
    skip
    simp [results, Tryz.results8, go_sem, r0, r1, r2, r3, r4, r5, r6]
  · have hRR := HR true true true false rfl rfl rfl rfl
    have hN1 := HB hRR
    subst hN1
    rw [HA 1 (by decide)]
    simp only
    clear HR HB HA HX hRR kX kW h1 h2 h3 h4
    obtain ⟨tp, ts⟩ := t
    obtain ⟨yh, yt, ya, yv, yn, yd⟩ := y
    obtain ⟨h, t, aa, v, n, d⟩ := x
    obtain ⟨ch, cr, ci, cl⟩ := c
    unfold trV aV hV cV at *
    unfold fivW trcs acs hcs ccs at H0
    simp only at *
    have hflat : ∀ W, Fiv w W ⟨tp, ts⟩ ⟨yh, yt, ya, yv, yn, yd⟩ (.slice p l.length cap) ⟨h, t, aa, v, n, d⟩ ⟨ch, cr, ci, cl⟩ b cb → (W.cell? ⟨w.heap.size, 0, none⟩ = some (.int .i64 tp) ∧ W.cell? ⟨w.heap.size, 1, none⟩ = some (.int .i64 ts)) ∧ (W.cell? ⟨w.heap.size + 1, 0, none⟩ = some (.int .i64 yh) ∧ W.cell? ⟨w.heap.size + 1, 1, none⟩ = some (.int .i64 yt) ∧ W.cell? ⟨w.heap.size + 1, 2, none⟩ = some (.string ya) ∧ W.cell? ⟨w.heap.size + 1, 3, none⟩ = some (.string yv) ∧ W.cell? ⟨w.heap.size + 1, 4, none⟩ = some (.string yn) ∧ W.cell? ⟨w.heap.size + 1, 5, none⟩ = some (.string yd) ∧ W.cell? ⟨w.heap.size + 1, 6, none⟩ = some (.slice p l.length cap)) ∧ (W.cell? ⟨w.heap.size + 2, 0, none⟩ = some (.int .i64 h) ∧ W.cell? ⟨w.heap.size + 2, 1, none⟩ = some (.int .i64 t) ∧ W.cell? ⟨w.heap.size + 2, 2, none⟩ = some (.string aa) ∧ W.cell? ⟨w.heap.size + 2, 3, none⟩ = some (.string v) ∧ W.cell? ⟨w.heap.size + 2, 4, none⟩ = some (.string n) ∧ W.cell? ⟨w.heap.size + 2, 5, none⟩ = some (.string d)) ∧ (W.cell? ⟨w.heap.size + 3, 0, none⟩ = some (.int .i64 ch) ∧ W.cell? ⟨w.heap.size + 3, 1, none⟩ = some (.int .i64 cr) ∧ W.cell? ⟨w.heap.size + 3, 2, none⟩ = some (.string ci) ∧ W.cell? ⟨w.heap.size + 3, 3, none⟩ = some (.slice b cl.length cb)) ∧ (W.cell? ⟨w.heap.size + 4, 0, none⟩ = some (.int .i64 0) ∧ W.cell? ⟨w.heap.size + 4, 1, none⟩ = some (.int .i64 0) ∧ W.cell? ⟨w.heap.size + 4, 2, none⟩ = some (.string ⟨#[]⟩) ∧ W.cell? ⟨w.heap.size + 4, 3, none⟩ = some (.string ⟨#[]⟩) ∧ W.cell? ⟨w.heap.size + 4, 4, none⟩ = some (.string ⟨#[]⟩) ∧ W.cell? ⟨w.heap.size + 4, 5, none⟩ = some (.string ⟨#[]⟩) ∧ W.cell? ⟨w.heap.size + 4, 6, none⟩ = some (.slice none 0 0)) ∧ (W.frozen? ⟨w.heap.size + 4, 0, none⟩ = false ∧ W.frozen? ⟨w.heap.size + 4, 1, none⟩ = false ∧ W.frozen? ⟨w.heap.size + 4, 2, none⟩ = false ∧ W.frozen? ⟨w.heap.size + 4, 3, none⟩ = false ∧ W.frozen? ⟨w.heap.size + 4, 4, none⟩ = false ∧ W.frozen? ⟨w.heap.size + 4, 5, none⟩ = false ∧ W.frozen? ⟨w.heap.size + 4, 6, none⟩ = false) := fun W h => ⟨⟨h.1.cell 0 rfl, h.1.cell 1 rfl⟩, ⟨h.2.1.cell 0 rfl, h.2.1.cell 1 rfl, h.2.1.cell 2 rfl, h.2.1.cell 3 rfl, h.2.1.cell 4 rfl, h.2.1.cell 5 rfl, h.2.1.cell 6 rfl⟩, ⟨h.2.2.1.cell 0 rfl, h.2.2.1.cell 1 rfl, h.2.2.1.cell 2 rfl, h.2.2.1.cell 3 rfl, h.2.2.1.cell 4 rfl, h.2.2.1.cell 5 rfl⟩, ⟨h.2.2.2.1.cell 0 rfl, h.2.2.2.1.cell 1 rfl, h.2.2.2.1.cell 2 rfl, h.2.2.2.1.cell 3 rfl⟩, ⟨h.2.2.2.2.1.cell 0 rfl, h.2.2.2.2.1.cell 1 rfl, h.2.2.2.2.1.cell 2 rfl, h.2.2.2.2.1.cell 3 rfl, h.2.2.2.2.1.cell 4 rfl, h.2.2.2.2.1.cell 5 rfl, h.2.2.2.2.1.cell 6 rfl⟩, ⟨h.2.2.2.2.1.frozen 0, h.2.2.2.2.1.frozen 1, h.2.2.2.2.1.frozen 2, h.2.2.2.2.1.frozen 3, h.2.2.2.2.1.frozen 4, h.2.2.2.2.1.frozen 5, h.2.2.2.2.1.frozen 6⟩⟩
    obtain ⟨w0, hw0⟩ : ∃ W, ((((w.alloc (Obj.cells #[Value.int .i64 tp, Value.int .i64 ts] 25)).alloc (Obj.cells #[Value.int .i64 yh, Value.int .i64 yt, Value.string ya, Value.string yv, Value.string yn, Value.string yd, Value.slice p l.length cap] 30)).alloc (Obj.cells #[Value.int .i64 h, Value.int .i64 t, Value.string aa, Value.string v, Value.string n, Value.string d] 27)).alloc (Obj.cells #[Value.int .i64 ch, Value.int .i64 cr, Value.string ci, Value.slice b cl.length cb] 33)).alloc (Obj.cells #[Value.int .i64 0, Value.int .i64 0, Value.string ⟨#[]⟩, Value.string ⟨#[]⟩, Value.string ⟨#[]⟩, Value.string ⟨#[]⟩, Value.slice none 0 0] 30) = W := ⟨_, rfl⟩
    have HA0 : Hid (Fiv w w0 ⟨tp, ts⟩ ⟨yh, yt, ya, yv, yn, yd⟩ (.slice p l.length cap) ⟨h, t, aa, v, n, d⟩ ⟨ch, cr, ci, cl⟩ b cb) := by rw [← hw0]; exact H0.out
    clear H0
    obtain ⟨⟨at0, at1⟩, ⟨ay0, ay1, ay2, ay3, ay4, ay5, ay6⟩, ⟨ax0, ax1, ax2, ax3, ax4, ax5⟩, ⟨ac0, ac1, ac2, ac3⟩, ⟨az0, az1, az2, az3, az4, az5, az6⟩, ⟨fz0, fz1, fz2, fz3, fz4, fz5, fz6⟩⟩ := hflat _ HA0.out
    go_enter Tryz.func8, Tryz.ntmps8
    go_wp2_with fail
    try rw [hw0]
    refine (k1 _).mono ?_
    rintro e w1 ⟨rfl, bb⟩
    have HA1 : Hid (Fiv w w1 ⟨tp, ts⟩ ⟨yh, yt, ya, yv, yn, yd⟩ (.slice p l.length cap) ⟨h, t, aa, v, n, d⟩ ⟨ch, cr, ci, cl⟩ b cb) := HA0.out.step bb
    clear at0 at1 ay0 ay1 ay2 ay3 ay4 ay5 ay6 ax0 ax1 ax2 ax3 ax4 ax5 ac0 ac1 ac2 ac3 az0 az1 az2 az3 az4 az5 az6 fz0 fz1 fz2 fz3 fz4 fz5 fz6 bb HA0 hw0
    obtain ⟨⟨at0, at1⟩, ⟨ay0, ay1, ay2, ay3, ay4, ay5, ay6⟩, ⟨ax0, ax1, ax2, ax3, ax4, ax5⟩, ⟨ac0, ac1, ac2, ac3⟩, ⟨az0, az1, az2, az3, az4, az5, az6⟩, ⟨fz0, fz1, fz2, fz3, fz4, fz5, fz6⟩⟩ := hflat _ HA1.out
    go_wp2_with fail
    refine (k2 _ (HL.out.below HA1.out.2.2.2.2.2)).mono ?_
    rintro e w2 ⟨rfl, bb⟩
    have HA2 : Hid (Fiv w w2 ⟨tp, ts⟩ ⟨yh, yt, ya, yv, yn, yd⟩ (.slice p l.length cap) ⟨h, t, aa, v, n, d⟩ ⟨ch, cr, ci, cl⟩ b cb) := HA1.out.step bb
    clear at0 at1 ay0 ay1 ay2 ay3 ay4 ay5 ay6 ax0 ax1 ax2 ax3 ax4 ax5 ac0 ac1 ac2 ac3 az0 az1 az2 az3 az4 az5 az6 fz0 fz1 fz2 fz3 fz4 fz5 fz6 bb HA1
    obtain ⟨⟨at0, at1⟩, ⟨ay0, ay1, ay2, ay3, ay4, ay5, ay6⟩, ⟨ax0, ax1, ax2, ax3, ax4, ax5⟩, ⟨ac0, ac1, ac2, ac3⟩, ⟨az0, az1, az2, az3, az4, az5, az6⟩, ⟨fz0, fz1, fz2, fz3, fz4, fz5, fz6⟩⟩ := hflat _ HA2.out
    go_wp2_with fail
    refine (k3 _).mono ?_
    rintro e w3 ⟨rfl, bb⟩
    have HA3 : Hid (Fiv w w3 ⟨tp, ts⟩ ⟨yh, yt, ya, yv, yn, yd⟩ (.slice p l.length cap) ⟨h, t, aa, v, n, d⟩ ⟨ch, cr, ci, cl⟩ b cb) := HA2.out.step bb
    clear at0 at1 ay0 ay1 ay2 ay3 ay4 ay5 ay6 ax0 ax1 ax2 ax3 ax4 ax5 ac0 ac1 ac2 ac3 az0 az1 az2 az3 az4 az5 az6 fz0 fz1 fz2 fz3 fz4 fz5 fz6 bb HA2
    obtain ⟨⟨at0, at1⟩, ⟨ay0, ay1, ay2, ay3, ay4, ay5, ay6⟩, ⟨ax0, ax1, ax2, ax3, ax4, ax5⟩, ⟨ac0, ac1, ac2, ac3⟩, ⟨az0, az1, az2, az3, az4, az5, az6⟩, ⟨fz0, fz1, fz2, fz3, fz4, fz5, fz6⟩⟩ := hflat _ HA3.out
    go_wp2_with fail
    refine (k4 _).mono ?_
    rintro e w3 ⟨rfl, rfl⟩
    go_wp2_with fail
    refine (kA _ (HL.out.below HA3.out.2.2.2.2.2)).mono ?_
    rintro e w4 ⟨u, cu, rfl, HO, bb⟩
    have HA4 : Hid (Fiv w w4 ⟨tp, ts⟩ ⟨yh, yt, ya, yv, yn, yd⟩ (.slice p l.length cap) ⟨h, t, aa, v, n, d⟩ ⟨ch, cr, ci, cl⟩ b cb) := HA3.out.step bb
    clear at0 at1 ay0 ay1 ay2 ay3 ay4 ay5 ay6 ax0 ax1 ax2 ax3 ax4 ax5 ac0 ac1 ac2 ac3 az0 az1 az2 az3 az4 az5 az6 fz0 fz1 fz2 fz3 fz4 fz5 fz6 bb
    obtain ⟨⟨at0, at1⟩, ⟨ay0, ay1, ay2, ay3, ay4, ay5, ay6⟩, ⟨ax0, ax1, ax2, ax3, ax4, ax5⟩, ⟨ac0, ac1, ac2, ac3⟩, ⟨az0, az1, az2, az3, az4, az5, az6⟩, ⟨fz0, fz1, fz2, fz3, fz4, fz5, fz6⟩⟩ := hflat _ HA4.out
    obtain ⟨w9, hw9⟩ : ∃ W, (((((((w4).setCell ⟨w.heap.size + 4, 0, none⟩ (.int .i64 yh)).setCell ⟨w.heap.size + 4, 1, none⟩ (.int .i64 yt)).setCell ⟨w.heap.size + 4, 2, none⟩ (.string ya)).setCell ⟨w.heap.size + 4, 3, none⟩ (.string yv)).setCell ⟨w.heap.size + 4, 4, none⟩ (.string yn)).setCell ⟨w.heap.size + 4, 5, none⟩ (.string yd)).setCell ⟨w.heap.size + 4, 6, none⟩ (.slice u l.length cu) = W := ⟨_, rfl⟩
    have hsz : w.heap.size + 4 < w3.heap.size := HA3.out.2.2.2.2.1.lt
    have HZ : Hid (Blk w9 (w.heap.size + 4) [.int .i64 yh, .int .i64 yt, .string ya, .string yv, .string yn, .string yd, .slice u l.length cu] 30) := by rw [← hw9]; exact (((((((HA4.out.2.2.2.2.1).set 0 _).set 1 _).set 2 _).set 3 _).set 4 _).set 5 _).set 6 _
    have HF : Below w.heap.size w w9 := by rw [← hw9]; exact (((((((HA4.out.2.2.2.2.2).setCell (show w.heap.size ≤ w.heap.size + 4 by omega) _).setCell (show w.heap.size ≤ w.heap.size + 4 by omega) _).setCell (show w.heap.size ≤ w.heap.size + 4 by omega) _).setCell (show w.heap.size ≤ w.heap.size + 4 by omega) _).setCell (show w.heap.size ≤ w.heap.size + 4 by omega) _).setCell (show w.heap.size ≤ w.heap.size + 4 by omega) _).setCell (show w.heap.size ≤ w.heap.size + 4 by omega) _
    have HO9 : Hid (OwnV w9 w.heap.size (.slice u l.length cu) l) := by rw [← hw9]; exact own_low (ownsRow_setCell_below (ownsRow_setCell_below (ownsRow_setCell_below (ownsRow_setCell_below (ownsRow_setCell_below (ownsRow_setCell_below (ownsRow_setCell_below HO.out (show w.heap.size + 4 < w3.heap.size from hsz) _) (show w.heap.size + 4 < w3.heap.size from hsz) _) (show w.heap.size + 4 < w3.heap.size from hsz) _) (show w.heap.size + 4 < w3.heap.size from hsz) _) (show w.heap.size + 4 < w3.heap.size from hsz) _) (show w.heap.size + 4 < w3.heap.size from hsz) _) (show w.heap.size + 4 < w3.heap.size from hsz) _) (by omega)
    have r0 := HZ.out.cell 0 rfl
    have r1 := HZ.out.cell 1 rfl
    have r2 := HZ.out.cell 2 rfl
    have r3 := HZ.out.cell 3 rfl
    have r4 := HZ.out.cell 4 rfl
    have r5 := HZ.out.cell 5 rfl
    have r6 := HZ.out.cell 6 rfl
    go_wp2
    try rw [hw9]
    refine bodyPost_ret (v := .tuple #[.agg #[.int .i64 yh, .int .i64 yt, .string ya, .string yv, .string yn, .string yd, .slice u l.length cu], .int .i64 1]) ?_ rfl ⟨_, _, rfl, HO9, HF⟩
    skip
    simp [results, Tryz.results8, go_sem, r0, r1, r2, r3, r4, r5, r6]
  · have hRR := HR true true true true rfl rfl rfl rfl
    have kW1 := kW hRR
    clear HR HB hRR kW h1 h2 h3 h4
    by_cases hN : N = 0
    rotate_left
    · rw [HA N hN]
      simp only
      clear HA HX kX
      obtain ⟨tp, ts⟩ := t
      obtain ⟨yh, yt, ya, yv, yn, yd⟩ := y
      obtain ⟨h, t, aa, v, n, d⟩ := x
      obtain ⟨ch, cr, ci, cl⟩ := c
      unfold trV aV hV cV at *
      unfold fivW trcs acs hcs ccs at H0
      simp only at *
      have hflat : ∀ W, Fiv w W ⟨tp, ts⟩ ⟨yh, yt, ya, yv, yn, yd⟩ (.slice p l.length cap) ⟨h, t, aa, v, n, d⟩ ⟨ch, cr, ci, cl⟩ b cb → (W.cell? ⟨w.heap.size, 0, none⟩ = some (.int .i64 tp) ∧ W.cell? ⟨w.heap.size, 1, none⟩ = some (.int .i64 ts)) ∧ (W.cell? ⟨w.heap.size + 1, 0, none⟩ = some (.int .i64 yh) ∧ W.cell? ⟨w.heap.size + 1, 1, none⟩ = some (.int .i64 yt) ∧ W.cell? ⟨w.heap.size + 1, 2, none⟩ = some (.string ya) ∧ W.cell? ⟨w.heap.size + 1, 3, none⟩ = some (.string yv) ∧ W.cell? ⟨w.heap.size + 1, 4, none⟩ = some (.string yn) ∧ W.cell? ⟨w.heap.size + 1, 5, none⟩ = some (.string yd) ∧ W.cell? ⟨w.heap.size + 1, 6, none⟩ = some (.slice p l.length cap)) ∧ (W.cell? ⟨w.heap.size + 2, 0, none⟩ = some (.int .i64 h) ∧ W.cell? ⟨w.heap.size + 2, 1, none⟩ = some (.int .i64 t) ∧ W.cell? ⟨w.heap.size + 2, 2, none⟩ = some (.string aa) ∧ W.cell? ⟨w.heap.size + 2, 3, none⟩ = some (.string v) ∧ W.cell? ⟨w.heap.size + 2, 4, none⟩ = some (.string n) ∧ W.cell? ⟨w.heap.size + 2, 5, none⟩ = some (.string d)) ∧ (W.cell? ⟨w.heap.size + 3, 0, none⟩ = some (.int .i64 ch) ∧ W.cell? ⟨w.heap.size + 3, 1, none⟩ = some (.int .i64 cr) ∧ W.cell? ⟨w.heap.size + 3, 2, none⟩ = some (.string ci) ∧ W.cell? ⟨w.heap.size + 3, 3, none⟩ = some (.slice b cl.length cb)) ∧ (W.cell? ⟨w.heap.size + 4, 0, none⟩ = some (.int .i64 0) ∧ W.cell? ⟨w.heap.size + 4, 1, none⟩ = some (.int .i64 0) ∧ W.cell? ⟨w.heap.size + 4, 2, none⟩ = some (.string ⟨#[]⟩) ∧ W.cell? ⟨w.heap.size + 4, 3, none⟩ = some (.string ⟨#[]⟩) ∧ W.cell? ⟨w.heap.size + 4, 4, none⟩ = some (.string ⟨#[]⟩) ∧ W.cell? ⟨w.heap.size + 4, 5, none⟩ = some (.string ⟨#[]⟩) ∧ W.cell? ⟨w.heap.size + 4, 6, none⟩ = some (.slice none 0 0)) ∧ (W.frozen? ⟨w.heap.size + 4, 0, none⟩ = false ∧ W.frozen? ⟨w.heap.size + 4, 1, none⟩ = false ∧ W.frozen? ⟨w.heap.size + 4, 2, none⟩ = false ∧ W.frozen? ⟨w.heap.size + 4, 3, none⟩ = false ∧ W.frozen? ⟨w.heap.size + 4, 4, none⟩ = false ∧ W.frozen? ⟨w.heap.size + 4, 5, none⟩ = false ∧ W.frozen? ⟨w.heap.size + 4, 6, none⟩ = false) := fun W h => ⟨⟨h.1.cell 0 rfl, h.1.cell 1 rfl⟩, ⟨h.2.1.cell 0 rfl, h.2.1.cell 1 rfl, h.2.1.cell 2 rfl, h.2.1.cell 3 rfl, h.2.1.cell 4 rfl, h.2.1.cell 5 rfl, h.2.1.cell 6 rfl⟩, ⟨h.2.2.1.cell 0 rfl, h.2.2.1.cell 1 rfl, h.2.2.1.cell 2 rfl, h.2.2.1.cell 3 rfl, h.2.2.1.cell 4 rfl, h.2.2.1.cell 5 rfl⟩, ⟨h.2.2.2.1.cell 0 rfl, h.2.2.2.1.cell 1 rfl, h.2.2.2.1.cell 2 rfl, h.2.2.2.1.cell 3 rfl⟩, ⟨h.2.2.2.2.1.cell 0 rfl, h.2.2.2.2.1.cell 1 rfl, h.2.2.2.2.1.cell 2 rfl, h.2.2.2.2.1.cell 3 rfl, h.2.2.2.2.1.cell 4 rfl, h.2.2.2.2.1.cell 5 rfl, h.2.2.2.2.1.cell 6 rfl⟩, ⟨h.2.2.2.2.1.frozen 0, h.2.2.2.2.1.frozen 1, h.2.2.2.2.1.frozen 2, h.2.2.2.2.1.frozen 3, h.2.2.2.2.1.frozen 4, h.2.2.2.2.1.frozen 5, h.2.2.2.2.1.frozen 6⟩⟩
      obtain ⟨w0, hw0⟩ : ∃ W, ((((w.alloc (Obj.cells #[Value.int .i64 tp, Value.int .i64 ts] 25)).alloc (Obj.cells #[Value.int .i64 yh, Value.int .i64 yt, Value.string ya, Value.string yv, Value.string yn, Value.string yd, Value.slice p l.length cap] 30)).alloc (Obj.cells #[Value.int .i64 h, Value.int .i64 t, Value.string aa, Value.string v, Value.string n, Value.string d] 27)).alloc (Obj.cells #[Value.int .i64 ch, Value.int .i64 cr, Value.string ci, Value.slice b cl.length cb] 33)).alloc (Obj.cells #[Value.int .i64 0, Value.int .i64 0, Value.string ⟨#[]⟩, Value.string ⟨#[]⟩, Value.string ⟨#[]⟩, Value.string ⟨#[]⟩, Value.slice none 0 0] 30) = W := ⟨_, rfl⟩
      have HA0 : Hid (Fiv w w0 ⟨tp, ts⟩ ⟨yh, yt, ya, yv, yn, yd⟩ (.slice p l.length cap) ⟨h, t, aa, v, n, d⟩ ⟨ch, cr, ci, cl⟩ b cb) := by rw [← hw0]; exact H0.out
      clear H0
      obtain ⟨⟨at0, at1⟩, ⟨ay0, ay1, ay2, ay3, ay4, ay5, ay6⟩, ⟨ax0, ax1, ax2, ax3, ax4, ax5⟩, ⟨ac0, ac1, ac2, ac3⟩, ⟨az0, az1, az2, az3, az4, az5, az6⟩, ⟨fz0, fz1, fz2, fz3, fz4, fz5, fz6⟩⟩ := hflat _ HA0.out
      go_enter Tryz.func8, Tryz.ntmps8
      go_wp2_with fail
      try rw [hw0]
      refine (k1 _).mono ?_
      rintro e w1 ⟨rfl, bb⟩
      have HA1 : Hid (Fiv w w1 ⟨tp, ts⟩ ⟨yh, yt, ya, yv, yn, yd⟩ (.slice p l.length cap) ⟨h, t, aa, v, n, d⟩ ⟨ch, cr, ci, cl⟩ b cb) := HA0.out.step bb
      clear at0 at1 ay0 ay1 ay2 ay3 ay4 ay5 ay6 ax0 ax1 ax2 ax3 ax4 ax5 ac0 ac1 ac2 ac3 az0 az1 az2 az3 az4 az5 az6 fz0 fz1 fz2 fz3 fz4 fz5 fz6 bb HA0 hw0
      obtain ⟨⟨at0, at1⟩, ⟨ay0, ay1, ay2, ay3, ay4, ay5, ay6⟩, ⟨ax0, ax1, ax2, ax3, ax4, ax5⟩, ⟨ac0, ac1, ac2, ac3⟩, ⟨az0, az1, az2, az3, az4, az5, az6⟩, ⟨fz0, fz1, fz2, fz3, fz4, fz5, fz6⟩⟩ := hflat _ HA1.out
      go_wp2_with fail
      refine (k2 _ (HL.out.below HA1.out.2.2.2.2.2)).mono ?_
      rintro e w2 ⟨rfl, bb⟩
      have HA2 : Hid (Fiv w w2 ⟨tp, ts⟩ ⟨yh, yt, ya, yv, yn, yd⟩ (.slice p l.length cap) ⟨h, t, aa, v, n, d⟩ ⟨ch, cr, ci, cl⟩ b cb) := HA1.out.step bb
      clear at0 at1 ay0 ay1 ay2 ay3 ay4 ay5 ay6 ax0 ax1 ax2 ax3 ax4 ax5 ac0 ac1 ac2 ac3 az0 az1 az2 az3 az4 az5 az6 fz0 fz1 fz2 fz3 fz4 fz5 fz6 bb HA1
      obtain ⟨⟨at0, at1⟩, ⟨ay0, ay1, ay2, ay3, ay4, ay5, ay6⟩, ⟨ax0, ax1, ax2, ax3, ax4, ax5⟩, ⟨ac0, ac1, ac2, ac3⟩, ⟨az0, az1, az2, az3, az4, az5, az6⟩, ⟨fz0, fz1, fz2, fz3, fz4, fz5, fz6⟩⟩ := hflat _ HA2.out
      go_wp2_with fail
      refine (k3 _).mono ?_
      rintro e w3 ⟨rfl, bb⟩
      have HA3 : Hid (Fiv w w3 ⟨tp, ts⟩ ⟨yh, yt, ya, yv, yn, yd⟩ (.slice p l.length cap) ⟨h, t, aa, v, n, d⟩ ⟨ch, cr, ci, cl⟩ b cb) := HA2.out.step bb
      clear at0 at1 ay0 ay1 ay2 ay3 ay4 ay5 ay6 ax0 ax1 ax2 ax3 ax4 ax5 ac0 ac1 ac2 ac3 az0 az1 az2 az3 az4 az5 az6 fz0 fz1 fz2 fz3 fz4 fz5 fz6 bb HA2
      obtain ⟨⟨at0, at1⟩, ⟨ay0, ay1, ay2, ay3, ay4, ay5, ay6⟩, ⟨ax0, ax1, ax2, ax3, ax4, ax5⟩, ⟨ac0, ac1, ac2, ac3⟩, ⟨az0, az1, az2, az3, az4, az5, az6⟩, ⟨fz0, fz1, fz2, fz3, fz4, fz5, fz6⟩⟩ := hflat _ HA3.out
      go_wp2_with fail
      refine (k4 _).mono ?_
      rintro e w3 ⟨rfl, rfl⟩
      go_wp2_with fail
      refine (kW1 _ (HL.out.below HA3.out.2.2.2.2.2) (HN.out.below HA3.out.2.2.2.2.2) (HS.out.below HA3.out.2.2.2.2.2)).mono ?_
      rintro e w4 ⟨rfl, bb⟩
      have HA4 : Hid (Fiv w w4 ⟨tp, ts⟩ ⟨yh, yt, ya, yv, yn, yd⟩ (.slice p l.length cap) ⟨h, t, aa, v, n, d⟩ ⟨ch, cr, ci, cl⟩ b cb) := HA3.out.step bb
      clear at0 at1 ay0 ay1 ay2 ay3 ay4 ay5 ay6 ax0 ax1 ax2 ax3 ax4 ax5 ac0 ac1 ac2 ac3 az0 az1 az2 az3 az4 az5 az6 fz0 fz1 fz2 fz3 fz4 fz5 fz6 bb HA3
      obtain ⟨⟨at0, at1⟩, ⟨ay0, ay1, ay2, ay3, ay4, ay5, ay6⟩, ⟨ax0, ax1, ax2, ax3, ax4, ax5⟩, ⟨ac0, ac1, ac2, ac3⟩, ⟨az0, az1, az2, az3, az4, az5, az6⟩, ⟨fz0, fz1, fz2, fz3, fz4, fz5, fz6⟩⟩ := hflat _ HA4.out
      go_wp2_with fail
      refine (kA _ (HL.out.below HA4.out.2.2.2.2.2)).mono ?_
      rintro e w5 ⟨u, cu, rfl, HO, bb⟩
      have HA5 : Hid (Fiv w w5 ⟨tp, ts⟩ ⟨yh, yt, ya, yv, yn, yd⟩ (.slice p l.length cap) ⟨h, t, aa, v, n, d⟩ ⟨ch, cr, ci, cl⟩ b cb) := HA4.out.step bb
      clear at0 at1 ay0 ay1 ay2 ay3 ay4 ay5 ay6 ax0 ax1 ax2 ax3 ax4 ax5 ac0 ac1 ac2 ac3 az0 az1 az2 az3 az4 az5 az6 fz0 fz1 fz2 fz3 fz4 fz5 fz6 bb
      obtain ⟨⟨at0, at1⟩, ⟨ay0, ay1, ay2, ay3, ay4, ay5, ay6⟩, ⟨ax0, ax1, ax2, ax3, ax4, ax5⟩, ⟨ac0, ac1, ac2, ac3⟩, ⟨az0, az1, az2, az3, az4, az5, az6⟩, ⟨fz0, fz1, fz2, fz3, fz4, fz5, fz6⟩⟩ := hflat _ HA5.out
      obtain ⟨w9, hw9⟩ : ∃ W, (((((((w5).setCell ⟨w.heap.size + 4, 0, none⟩ (.int .i64 yh)).setCell ⟨w.heap.size + 4, 1, none⟩ (.int .i64 yt)).setCell ⟨w.heap.size + 4, 2, none⟩ (.string ya)).setCell ⟨w.heap.size + 4, 3, none⟩ (.string yv)).setCell ⟨w.heap.size + 4, 4, none⟩ (.string yn)).setCell ⟨w.heap.size + 4, 5, none⟩ (.string yd)).setCell ⟨w.heap.size + 4, 6, none⟩ (.slice u l.length cu) = W := ⟨_, rfl⟩
      have hsz : w.heap.size + 4 < w4.heap.size := HA4.out.2.2.2.2.1.lt
      have HZ : Hid (Blk w9 (w.heap.size + 4) [.int .i64 yh, .int .i64 yt, .string ya, .string yv, .string yn, .string yd, .slice u l.length cu] 30) := by rw [← hw9]; exact (((((((HA5.out.2.2.2.2.1).set 0 _).set 1 _).set 2 _).set 3 _).set 4 _).set 5 _).set 6 _
      have HF : Below w.heap.size w w9 := by rw [← hw9]; exact (((((((HA5.out.2.2.2.2.2).setCell (show w.heap.size ≤ w.heap.size + 4 by omega) _).setCell (show w.heap.size ≤ w.heap.size + 4 by omega) _).setCell (show w.heap.size ≤ w.heap.size + 4 by omega) _).setCell (show w.heap.size ≤ w.heap.size + 4 by omega) _).setCell (show w.heap.size ≤ w.heap.size + 4 by omega) _).setCell (show w.heap.size ≤ w.heap.size + 4 by omega) _).setCell (show w.heap.size ≤ w.heap.size + 4 by omega) _
      have HO9 : Hid (OwnV w9 w.heap.size (.slice u l.length cu) l) := by rw [← hw9]; exact own_low (ownsRow_setCell_below (ownsRow_setCell_below (ownsRow_setCell_below (ownsRow_setCell_below (ownsRow_setCell_below (ownsRow_setCell_below (ownsRow_setCell_below HO.out (show w.heap.size + 4 < w4.heap.size from hsz) _) (show w.heap.size + 4 < w4.heap.size from hsz) _) (show w.heap.size + 4 < w4.heap.size from hsz) _) (show w.heap.size + 4 < w4.heap.size from hsz) _) (show w.heap.size + 4 < w4.heap.size from hsz) _) (show w.heap.size + 4 < w4.heap.size from hsz) _) (show w.heap.size + 4 < w4.heap.size from hsz) _) (by omega)
      have r0 := HZ.out.cell 0 rfl
      have r1 := HZ.out.cell 1 rfl
      have r2 := HZ.out.cell 2 rfl
      have r3 := HZ.out.cell 3 rfl
      have r4 := HZ.out.cell 4 rfl
      have r5 := HZ.out.cell 5 rfl
      have r6 := HZ.out.cell 6 rfl
      go_wp2
      try rw [hw9]
      refine bodyPost_ret (v := .tuple #[.agg #[.int .i64 yh, .int .i64 yt, .string ya, .string yv, .string yn, .string yd, .slice u l.length cu], .int .i64 N]) ?_ rfl ⟨_, _, rfl, HO9, HF⟩
      skip
      simp [results, Tryz.results8, go_sem, r0, r1, r2, r3, r4, r5, r6]
    · subst hN
      rw [HX]
      simp only
      clear HA HX kA
      obtain ⟨tp, ts⟩ := t
      obtain ⟨yh, yt, ya, yv, yn, yd⟩ := y
      obtain ⟨h, t, aa, v, n, d⟩ := x
      obtain ⟨ch, cr, ci, cl⟩ := c
      unfold trV aV hV cV at *
      unfold fivW trcs acs hcs ccs at H0
      simp only at *
      have hflat : ∀ W, Fiv w W ⟨tp, ts⟩ ⟨yh, yt, ya, yv, yn, yd⟩ (.slice p l.length cap) ⟨h, t, aa, v, n, d⟩ ⟨ch, cr, ci, cl⟩ b cb → (W.cell? ⟨w.heap.size, 0, none⟩ = some (.int .i64 tp) ∧ W.cell? ⟨w.heap.size, 1, none⟩ = some (.int .i64 ts)) ∧ (W.cell? ⟨w.heap.size + 1, 0, none⟩ = some (.int .i64 yh) ∧ W.cell? ⟨w.heap.size + 1, 1, none⟩ = some (.int .i64 yt) ∧ W.cell? ⟨w.heap.size + 1, 2, none⟩ = some (.string ya) ∧ W.cell? ⟨w.heap.size + 1, 3, none⟩ = some (.string yv) ∧ W.cell? ⟨w.heap.size + 1, 4, none⟩ = some (.string yn) ∧ W.cell? ⟨w.heap.size + 1, 5, none⟩ = some (.string yd) ∧ W.cell? ⟨w.heap.size + 1, 6, none⟩ = some (.slice p l.length cap)) ∧ (W.cell? ⟨w.heap.size + 2, 0, none⟩ = some (.int .i64 h) ∧ W.cell? ⟨w.heap.size + 2, 1, none⟩ = some (.int .i64 t) ∧ W.cell? ⟨w.heap.size + 2, 2, none⟩ = some (.string aa) ∧ W.cell? ⟨w.heap.size + 2, 3, none⟩ = some (.string v) ∧ W.cell? ⟨w.heap.size + 2, 4, none⟩ = some (.string n) ∧ W.cell? ⟨w.heap.size + 2, 5, none⟩ = some (.string d)) ∧ (W.cell? ⟨w.heap.size + 3, 0, none⟩ = some (.int .i64 ch) ∧ W.cell? ⟨w.heap.size + 3, 1, none⟩ = some (.int .i64 cr) ∧ W.cell? ⟨w.heap.size + 3, 2, none⟩ = some (.string ci) ∧ W.cell? ⟨w.heap.size + 3, 3, none⟩ = some (.slice b cl.length cb)) ∧ (W.cell? ⟨w.heap.size + 4, 0, none⟩ = some (.int .i64 0) ∧ W.cell? ⟨w.heap.size + 4, 1, none⟩ = some (.int .i64 0) ∧ W.cell? ⟨w.heap.size + 4, 2, none⟩ = some (.string ⟨#[]⟩) ∧ W.cell? ⟨w.heap.size + 4, 3, none⟩ = some (.string ⟨#[]⟩) ∧ W.cell? ⟨w.heap.size + 4, 4, none⟩ = some (.string ⟨#[]⟩) ∧ W.cell? ⟨w.heap.size + 4, 5, none⟩ = some (.string ⟨#[]⟩) ∧ W.cell? ⟨w.heap.size + 4, 6, none⟩ = some (.slice none 0 0)) ∧ (W.frozen? ⟨w.heap.size + 4, 0, none⟩ = false ∧ W.frozen? ⟨w.heap.size + 4, 1, none⟩ = false ∧ W.frozen? ⟨w.heap.size + 4, 2, none⟩ = false ∧ W.frozen? ⟨w.heap.size + 4, 3, none⟩ = false ∧ W.frozen? ⟨w.heap.size + 4, 4, none⟩ = false ∧ W.frozen? ⟨w.heap.size + 4, 5, none⟩ = false ∧ W.frozen? ⟨w.heap.size + 4, 6, none⟩ = false) := fun W h => ⟨⟨h.1.cell 0 rfl, h.1.cell 1 rfl⟩, ⟨h.2.1.cell 0 rfl, h.2.1.cell 1 rfl, h.2.1.cell 2 rfl, h.2.1.cell 3 rfl, h.2.1.cell 4 rfl, h.2.1.cell 5 rfl, h.2.1.cell 6 rfl⟩, ⟨h.2.2.1.cell 0 rfl, h.2.2.1.cell 1 rfl, h.2.2.1.cell 2 rfl, h.2.2.1.cell 3 rfl, h.2.2.1.cell 4 rfl, h.2.2.1.cell 5 rfl⟩, ⟨h.2.2.2.1.cell 0 rfl, h.2.2.2.1.cell 1 rfl, h.2.2.2.1.cell 2 rfl, h.2.2.2.1.cell 3 rfl⟩, ⟨h.2.2.2.2.1.cell 0 rfl, h.2.2.2.2.1.cell 1 rfl, h.2.2.2.2.1.cell 2 rfl, h.2.2.2.2.1.cell 3 rfl, h.2.2.2.2.1.cell 4 rfl, h.2.2.2.2.1.cell 5 rfl, h.2.2.2.2.1.cell 6 rfl⟩, ⟨h.2.2.2.2.1.frozen 0, h.2.2.2.2.1.frozen 1, h.2.2.2.2.1.frozen 2, h.2.2.2.2.1.frozen 3, h.2.2.2.2.1.frozen 4, h.2.2.2.2.1.frozen 5, h.2.2.2.2.1.frozen 6⟩⟩
      obtain ⟨w0, hw0⟩ : ∃ W, ((((w.alloc (Obj.cells #[Value.int .i64 tp, Value.int .i64 ts] 25)).alloc (Obj.cells #[Value.int .i64 yh, Value.int .i64 yt, Value.string ya, Value.string yv, Value.string yn, Value.string yd, Value.slice p l.length cap] 30)).alloc (Obj.cells #[Value.int .i64 h, Value.int .i64 t, Value.string aa, Value.string v, Value.string n, Value.string d] 27)).alloc (Obj.cells #[Value.int .i64 ch, Value.int .i64 cr, Value.string ci, Value.slice b cl.length cb] 33)).alloc (Obj.cells #[Value.int .i64 0, Value.int .i64 0, Value.string ⟨#[]⟩, Value.string ⟨#[]⟩, Value.string ⟨#[]⟩, Value.string ⟨#[]⟩, Value.slice none 0 0] 30) = W := ⟨_, rfl⟩
      have HA0 : Hid (Fiv w w0 ⟨tp, ts⟩ ⟨yh, yt, ya, yv, yn, yd⟩ (.slice p l.length cap) ⟨h, t, aa, v, n, d⟩ ⟨ch, cr, ci, cl⟩ b cb) := by rw [← hw0]; exact H0.out
      clear H0
      obtain ⟨⟨at0, at1⟩, ⟨ay0, ay1, ay2, ay3, ay4, ay5, ay6⟩, ⟨ax0, ax1, ax2, ax3, ax4, ax5⟩, ⟨ac0, ac1, ac2, ac3⟩, ⟨az0, az1, az2, az3, az4, az5, az6⟩, ⟨fz0, fz1, fz2, fz3, fz4, fz5, fz6⟩⟩ := hflat _ HA0.out
      go_enter Tryz.func8, Tryz.ntmps8
      go_wp2_with fail
      try rw [hw0]
      refine (k1 _).mono ?_
      rintro e w1 ⟨rfl, bb⟩
      have HA1 : Hid (Fiv w w1 ⟨tp, ts⟩ ⟨yh, yt, ya, yv, yn, yd⟩ (.slice p l.length cap) ⟨h, t, aa, v, n, d⟩ ⟨ch, cr, ci, cl⟩ b cb) := HA0.out.step bb
      clear at0 at1 ay0 ay1 ay2 ay3 ay4 ay5 ay6 ax0 ax1 ax2 ax3 ax4 ax5 ac0 ac1 ac2 ac3 az0 az1 az2 az3 az4 az5 az6 fz0 fz1 fz2 fz3 fz4 fz5 fz6 bb HA0 hw0
      obtain ⟨⟨at0, at1⟩, ⟨ay0, ay1, ay2, ay3, ay4, ay5, ay6⟩, ⟨ax0, ax1, ax2, ax3, ax4, ax5⟩, ⟨ac0, ac1, ac2, ac3⟩, ⟨az0, az1, az2, az3, az4, az5, az6⟩, ⟨fz0, fz1, fz2, fz3, fz4, fz5, fz6⟩⟩ := hflat _ HA1.out
      go_wp2_with fail
      refine (k2 _ (HL.out.below HA1.out.2.2.2.2.2)).mono ?_
      rintro e w2 ⟨rfl, bb⟩
      have HA2 : Hid (Fiv w w2 ⟨tp, ts⟩ ⟨yh, yt, ya, yv, yn, yd⟩ (.slice p l.length cap) ⟨h, t, aa, v, n, d⟩ ⟨ch, cr, ci, cl⟩ b cb) := HA1.out.step bb
      clear at0 at1 ay0 ay1 ay2 ay3 ay4 ay5 ay6 ax0 ax1 ax2 ax3 ax4 ax5 ac0 ac1 ac2 ac3 az0 az1 az2 az3 az4 az5 az6 fz0 fz1 fz2 fz3 fz4 fz5 fz6 bb HA1
      obtain ⟨⟨at0, at1⟩, ⟨ay0, ay1, ay2, ay3, ay4, ay5, ay6⟩, ⟨ax0, ax1, ax2, ax3, ax4, ax5⟩, ⟨ac0, ac1, ac2, ac3⟩, ⟨az0, az1, az2, az3, az4, az5, az6⟩, ⟨fz0, fz1, fz2, fz3, fz4, fz5, fz6⟩⟩ := hflat _ HA2.out
      go_wp2_with fail
      refine (k3 _).mono ?_
      rintro e w3 ⟨rfl, bb⟩
      have HA3 : Hid (Fiv w w3 ⟨tp, ts⟩ ⟨yh, yt, ya, yv, yn, yd⟩ (.slice p l.length cap) ⟨h, t, aa, v, n, d⟩ ⟨ch, cr, ci, cl⟩ b cb) := HA2.out.step bb
      clear at0 at1 ay0 ay1 ay2 ay3 ay4 ay5 ay6 ax0 ax1 ax2 ax3 ax4 ax5 ac0 ac1 ac2 ac3 az0 az1 az2 az3 az4 az5 az6 fz0 fz1 fz2 fz3 fz4 fz5 fz6 bb HA2
      obtain ⟨⟨at0, at1⟩, ⟨ay0, ay1, ay2, ay3, ay4, ay5, ay6⟩, ⟨ax0, ax1, ax2, ax3, ax4, ax5⟩, ⟨ac0, ac1, ac2, ac3⟩, ⟨az0, az1, az2, az3, az4, az5, az6⟩, ⟨fz0, fz1, fz2, fz3, fz4, fz5, fz6⟩⟩ := hflat _ HA3.out
      go_wp2_with fail
      refine (k4 _).mono ?_
      rintro e w3 ⟨rfl, rfl⟩
      go_wp2_with fail
      refine (kW1 _ (HL.out.below HA3.out.2.2.2.2.2) (HN.out.below HA3.out.2.2.2.2.2) (HS.out.below HA3.out.2.2.2.2.2)).mono ?_
      rintro e w4 ⟨rfl, bb⟩
      have HA4 : Hid (Fiv w w4 ⟨tp, ts⟩ ⟨yh, yt, ya, yv, yn, yd⟩ (.slice p l.length cap) ⟨h, t, aa, v, n, d⟩ ⟨ch, cr, ci, cl⟩ b cb) := HA3.out.step bb
      clear at0 at1 ay0 ay1 ay2 ay3 ay4 ay5 ay6 ax0 ax1 ax2 ax3 ax4 ax5 ac0 ac1 ac2 ac3 az0 az1 az2 az3 az4 az5 az6 fz0 fz1 fz2 fz3 fz4 fz5 fz6 bb HA3
      obtain ⟨⟨at0, at1⟩, ⟨ay0, ay1, ay2, ay3, ay4, ay5, ay6⟩, ⟨ax0, ax1, ax2, ax3, ax4, ax5⟩, ⟨ac0, ac1, ac2, ac3⟩, ⟨az0, az1, az2, az3, az4, az5, az6⟩, ⟨fz0, fz1, fz2, fz3, fz4, fz5, fz6⟩⟩ := hflat _ HA4.out
      go_wp2_with fail
      refine (kX _ (HN.out.below HA4.out.2.2.2.2.2)).mono ?_
      rintro e w5 ⟨u, cu, rfl, HO, bb⟩
      have HA5 : Hid (Fiv w w5 ⟨tp, ts⟩ ⟨yh, yt, ya, yv, yn, yd⟩ (.slice p l.length cap) ⟨h, t, aa, v, n, d⟩ ⟨ch, cr, ci, cl⟩ b cb) := HA4.out.step bb
      clear at0 at1 ay0 ay1 ay2 ay3 ay4 ay5 ay6 ax0 ax1 ax2 ax3 ax4 ax5 ac0 ac1 ac2 ac3 az0 az1 az2 az3 az4 az5 az6 fz0 fz1 fz2 fz3 fz4 fz5 fz6 bb
      obtain ⟨⟨at0, at1⟩, ⟨ay0, ay1, ay2, ay3, ay4, ay5, ay6⟩, ⟨ax0, ax1, ax2, ax3, ax4, ax5⟩, ⟨ac0, ac1, ac2, ac3⟩, ⟨az0, az1, az2, az3, az4, az5, az6⟩, ⟨fz0, fz1, fz2, fz3, fz4, fz5, fz6⟩⟩ := hflat _ HA5.out
      obtain ⟨w9, hw9⟩ : ∃ W, (((((((w5).setCell ⟨w.heap.size + 4, 0, none⟩ (.int .i64 h)).setCell ⟨w.heap.size + 4, 1, none⟩ (.int .i64 t)).setCell ⟨w.heap.size + 4, 2, none⟩ (.string aa)).setCell ⟨w.heap.size + 4, 3, none⟩ (.string v)).setCell ⟨w.heap.size + 4, 4, none⟩ (.string n)).setCell ⟨w.heap.size + 4, 5, none⟩ (.string d)).setCell ⟨w.heap.size + 4, 6, none⟩ (.slice u nx.length cu) = W := ⟨_, rfl⟩
      have hsz : w.heap.size + 4 < w4.heap.size := HA4.out.2.2.2.2.1.lt
      have HZ : Hid (Blk w9 (w.heap.size + 4) [.int .i64 h, .int .i64 t, .string aa, .string v, .string n, .string d, .slice u nx.length cu] 30) := by rw [← hw9]; exact (((((((HA5.out.2.2.2.2.1).set 0 _).set 1 _).set 2 _).set 3 _).set 4 _).set 5 _).set 6 _
      have HF : Below w.heap.size w w9 := by rw [← hw9]; exact (((((((HA5.out.2.2.2.2.2).setCell (show w.heap.size ≤ w.heap.size + 4 by omega) _).setCell (show w.heap.size ≤ w.heap.size + 4 by omega) _).setCell (show w.heap.size ≤ w.heap.size + 4 by omega) _).setCell (show w.heap.size ≤ w.heap.size + 4 by omega) _).setCell (show w.heap.size ≤ w.heap.size + 4 by omega) _).setCell (show w.heap.size ≤ w.heap.size + 4 by omega) _).setCell (show w.heap.size ≤ w.heap.size + 4 by omega) _
      have HO9 : Hid (OwnV w9 w.heap.size (.slice u nx.length cu) nx) := by rw [← hw9]; exact own_low (ownsRow_setCell_below (ownsRow_setCell_below (ownsRow_setCell_below (ownsRow_setCell_below (ownsRow_setCell_below (ownsRow_setCell_below (ownsRow_setCell_below HO.out (show w.heap.size + 4 < w4.heap.size from hsz) _) (show w.heap.size + 4 < w4.heap.size from hsz) _) (show w.heap.size + 4 < w4.heap.size from hsz) _) (show w.heap.size + 4 < w4.heap.size from hsz) _) (show w.heap.size + 4 < w4.heap.size from hsz) _) (show w.heap.size + 4 < w4.heap.size from hsz) _) (show w.heap.size + 4 < w4.heap.size from hsz) _) (by omega)
      have r0 := HZ.out.cell 0 rfl
      have r1 := HZ.out.cell 1 rfl
      have r2 := HZ.out.cell 2 rfl
      have r3 := HZ.out.cell 3 rfl
      have r4 := HZ.out.cell 4 rfl
      have r5 := HZ.out.cell 5 rfl
      have r6 := HZ.out.cell 6 rfl
      go_wp2
      try rw [hw9]
      refine bodyPost_ret (v := .tuple #[.agg #[.int .i64 h, .int .i64 t, .string aa, .string v, .string n, .string d, .slice u nx.length cu], .int .i64 0]) ?_ rfl ⟨_, _, rfl, HO9, HF⟩
      skip
      simp [results, Tryz.results8, go_sem, r0, r1, r2, r3, r4, r5, r6]
end Go.Proofs.YtajfmjgaaapjeaaGreatDoor
