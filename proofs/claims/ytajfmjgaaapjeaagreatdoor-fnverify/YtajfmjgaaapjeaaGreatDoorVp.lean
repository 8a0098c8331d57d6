/- What asksPlace answers; old memory stays. Conditions: what a machine can hold; the listed variables; anchor's header and header are right. -/
import Derived.Test.YtajfmjgaaapjeaaGreatDoorVy
namespace Go.Proofs.YtajfmjgaaapjeaaGreatDoor
open Go.RowKit
open Num
set_option linter.unusedVariables false
set_option maxHeartbeats 6400000 in
set_option maxRecDepth 100000 in
theorem asks_place (y : H) (l : List V) (p : Option Addr) (cap : Nat) (x : H) (nx : List V) (pn : Option Addr) (capn : Nat) (c : Ct) (b : Option Addr) (cb : Nat) (w : World) (hl : VO w p l) (hn : VO w pn nx) (hs : SO w b c.l) (hlen : l.length ≤ 9223372036854775807) (hlen2 : nx.length ≤ 9223372036854775807) (hlen3 : c.l.length ≤ 9223372036854775807) (hT : Tab w) (hy : hOk y = true) (hx : hOk x = true) :
    Calls Tryz.prog 39 #[aV y (.slice p l.length cap), hV x, .slice pn nx.length capn, cV c b cb] w fun e w' => e = .returned (errV (placeN ⟨y, l⟩ x nx c)) ∧ Below w.heap.size w w' := by
  have H0 : Hid (Trp w (((w.alloc (.cells (acs y (.slice p l.length cap)).toArray 30)).alloc (.cells (hcs x) 27)).alloc (.cells (ccs c b cb).toArray 33)) y (.slice p l.length cap) x c b cb) := trp_new w y _ x c b cb
  have HT : Hid (Tab w) := hT
  have HL : Hid (VO w p l) := hl
  have HN : Hid (VO w pn nx) := hn
  have HS : Hid (SO w b c.l) := hs
  have kI := fun W (h' : Tab W) => impl_headid y W h'
  have kV := fun W (h : VO W pn nx) (h' : Tab W) => impl_vhash pn nx capn W h hlen2 h'
  have kC := fun W (h : VO W p l) (g : SO W b c.l) (h' : Tab W) => impl_comok l p cap x c b cb W h hlen g hlen3 h'
  obtain ⟨y1, y2, y3, y4, _⟩ := (hOk_iff y).1 hy
  obtain ⟨x1, x2, x3, x4, _⟩ := (hOk_iff x).1 hx
  have HE : Hid (placeN ⟨y, l⟩ x nx c = if x.h = y.h + 1 then (if x.t ≤ y.t then 5 else if x.a = headI y then (if x.v = y.n then (if x.n = hashV nx then (if comOk l x c = true then 0 else 9) else 8) else 7) else 6) else 4) := by
    show _ = _
    unfold placeN
    simp only [next_short hx]
  generalize placeN ⟨y, l⟩ x nx c = N at *
  generalize headI y = I at *
  generalize hashV nx = S at *
  generalize comOk l x c = O at *
  obtain ⟨yh, yt, ya, yv, yn, yd⟩ := y
  obtain ⟨h, t, aa, v, n, d⟩ := x
  obtain ⟨ch, cr, ci, cl⟩ := c
  unfold aV hV cV at *
  unfold acs hcs ccs at H0
  simp only at *
  generalize l.length = m at *
  generalize nx.length = m' at *
  have HE1 := HE.out
  clear HE hl hn hs hT hy hx
  have hflat : ∀ W, Trp w W ⟨yh, yt, ya, yv, yn, yd⟩ (.slice p m cap) ⟨h, t, aa, v, n, d⟩ ⟨ch, cr, ci, cl⟩ b cb → (W.cell? ⟨w.heap.size, 0, none⟩ = some (.int .i64 yh) ∧ W.cell? ⟨w.heap.size, 1, none⟩ = some (.int .i64 yt) ∧ W.cell? ⟨w.heap.size, 2, none⟩ = some (.string ya) ∧ W.cell? ⟨w.heap.size, 3, none⟩ = some (.string yv) ∧ W.cell? ⟨w.heap.size, 4, none⟩ = some (.string yn) ∧ W.cell? ⟨w.heap.size, 5, none⟩ = some (.string yd) ∧ W.cell? ⟨w.heap.size, 6, none⟩ = some (.slice p m cap)) ∧ (W.cell? ⟨w.heap.size + 1, 0, none⟩ = some (.int .i64 h) ∧ W.cell? ⟨w.heap.size + 1, 1, none⟩ = some (.int .i64 t) ∧ W.cell? ⟨w.heap.size + 1, 2, none⟩ = some (.string aa) ∧ W.cell? ⟨w.heap.size + 1, 3, none⟩ = some (.string v) ∧ W.cell? ⟨w.heap.size + 1, 4, none⟩ = some (.string n) ∧ W.cell? ⟨w.heap.size + 1, 5, none⟩ = some (.string d)) ∧ (W.cell? ⟨w.heap.size + 2, 0, none⟩ = some (.int .i64 ch) ∧ W.cell? ⟨w.heap.size + 2, 1, none⟩ = some (.int .i64 cr) ∧ W.cell? ⟨w.heap.size + 2, 2, none⟩ = some (.string ci) ∧ W.cell? ⟨w.heap.size + 2, 3, none⟩ = some (.slice b cl.length cb)) := fun W h => ⟨⟨h.1.cell 0 rfl, h.1.cell 1 rfl, h.1.cell 2 rfl, h.1.cell 3 rfl, h.1.cell 4 rfl, h.1.cell 5 rfl, h.1.cell 6 rfl⟩, ⟨h.2.1.cell 0 rfl, h.2.1.cell 1 rfl, h.2.1.cell 2 rfl, h.2.1.cell 3 rfl, h.2.1.cell 4 rfl, h.2.1.cell 5 rfl⟩, ⟨h.2.2.1.cell 0 rfl, h.2.2.1.cell 1 rfl, h.2.2.1.cell 2 rfl, h.2.2.1.cell 3 rfl⟩⟩
  by_cases c4 : h = yh + 1
  rotate_left
  · rw [if_neg c4] at HE1
    have HF2 : Hid (errV N = .iface 114 (.agg #[.int .i64 4])) := by show _ = _; rw [HE1]; rfl
    rw [HF2.out]
    clear HE1 HF2
    obtain ⟨w0, hw0⟩ : ∃ W, ((w.alloc (Obj.cells #[Value.int .i64 yh, Value.int .i64 yt, Value.string ya, Value.string yv, Value.string yn, Value.string yd, Value.slice p m cap] 30)).alloc (Obj.cells #[Value.int .i64 h, Value.int .i64 t, Value.string aa, Value.string v, Value.string n, Value.string d] 27)).alloc (Obj.cells #[Value.int .i64 ch, Value.int .i64 cr, Value.string ci, Value.slice b cl.length cb] 33) = W := ⟨_, rfl⟩
    have HA0 : Hid (Trp w w0 ⟨yh, yt, ya, yv, yn, yd⟩ (.slice p m cap) ⟨h, t, aa, v, n, d⟩ ⟨ch, cr, ci, cl⟩ b cb) := by rw [← hw0]; exact H0.out
    clear H0
    obtain ⟨⟨ay0, ay1, ay2, ay3, ay4, ay5, ay6⟩, ⟨ax0, ax1, ax2, ax3, ax4, ax5⟩, ⟨ac0, ac1, ac2, ac3⟩⟩ := hflat _ HA0.out
    go_enter Tryz.func39, Tryz.ntmps39
    go_wp2
    try rw [hw0]
    go_ret
    try rw [hw0]
    exact ⟨rfl, HA0.out.2.2.2⟩
  rw [if_pos c4] at HE1
  subst c4
  by_cases c5 : t ≤ yt
  · rw [if_pos c5] at HE1
    have HF2 : Hid (errV N = .iface 114 (.agg #[.int .i64 5])) := by show _ = _; rw [HE1]; rfl
    rw [HF2.out]
    clear HE1 HF2
    obtain ⟨w0, hw0⟩ : ∃ W, ((w.alloc (Obj.cells #[Value.int .i64 yh, Value.int .i64 yt, Value.string ya, Value.string yv, Value.string yn, Value.string yd, Value.slice p m cap] 30)).alloc (Obj.cells #[Value.int .i64 (yh + 1), Value.int .i64 t, Value.string aa, Value.string v, Value.string n, Value.string d] 27)).alloc (Obj.cells #[Value.int .i64 ch, Value.int .i64 cr, Value.string ci, Value.slice b cl.length cb] 33) = W := ⟨_, rfl⟩
    have HA0 : Hid (Trp w w0 ⟨yh, yt, ya, yv, yn, yd⟩ (.slice p m cap) ⟨yh + 1, t, aa, v, n, d⟩ ⟨ch, cr, ci, cl⟩ b cb) := by rw [← hw0]; exact H0.out
    clear H0
    obtain ⟨⟨ay0, ay1, ay2, ay3, ay4, ay5, ay6⟩, ⟨ax0, ax1, ax2, ax3, ax4, ax5⟩, ⟨ac0, ac1, ac2, ac3⟩⟩ := hflat _ HA0.out
    go_enter Tryz.func39, Tryz.ntmps39
    go_wp2
    try rw [hw0]
    go_ret
    try rw [hw0]
    exact ⟨rfl, HA0.out.2.2.2⟩
  rw [if_neg c5] at HE1
  by_cases c6 : aa = I
  rotate_left
  · rw [if_neg c6] at HE1
    have ec6 : (aa.toList == I.toList) = false := by rw [beq_str]; simp [c6]
    clear c6
    have HF2 : Hid (errV N = .iface 114 (.agg #[.int .i64 6])) := by show _ = _; rw [HE1]; rfl
    rw [HF2.out]
    clear HE1 HF2
    obtain ⟨w0, hw0⟩ : ∃ W, ((w.alloc (Obj.cells #[Value.int .i64 yh, Value.int .i64 yt, Value.string ya, Value.string yv, Value.string yn, Value.string yd, Value.slice p m cap] 30)).alloc (Obj.cells #[Value.int .i64 (yh + 1), Value.int .i64 t, Value.string aa, Value.string v, Value.string n, Value.string d] 27)).alloc (Obj.cells #[Value.int .i64 ch, Value.int .i64 cr, Value.string ci, Value.slice b cl.length cb] 33) = W := ⟨_, rfl⟩
    have HA0 : Hid (Trp w w0 ⟨yh, yt, ya, yv, yn, yd⟩ (.slice p m cap) ⟨yh + 1, t, aa, v, n, d⟩ ⟨ch, cr, ci, cl⟩ b cb) := by rw [← hw0]; exact H0.out
    clear H0
    obtain ⟨⟨ay0, ay1, ay2, ay3, ay4, ay5, ay6⟩, ⟨ax0, ax1, ax2, ax3, ax4, ax5⟩, ⟨ac0, ac1, ac2, ac3⟩⟩ := hflat _ HA0.out
    go_enter Tryz.func39, Tryz.ntmps39
    go_wp2_with fail
    try rw [hw0]
    have hn := bel_some w0
    have qay0 := fun q : Bel w0 => q.cell ay0
    have qay1 := fun q : Bel w0 => q.cell ay1
    have qay2 := fun q : Bel w0 => q.cell ay2
    have qay3 := fun q : Bel w0 => q.cell ay3
    have qay4 := fun q : Bel w0 => q.cell ay4
    have qay5 := fun q : Bel w0 => q.cell ay5
    have qay6 := fun q : Bel w0 => q.cell ay6
    have qax0 := fun q : Bel w0 => q.cell ax0
    have qax1 := fun q : Bel w0 => q.cell ax1
    have qax2 := fun q : Bel w0 => q.cell ax2
    have qax3 := fun q : Bel w0 => q.cell ax3
    have qax4 := fun q : Bel w0 => q.cell ax4
    have qax5 := fun q : Bel w0 => q.cell ax5
    have qac0 := fun q : Bel w0 => q.cell ac0
    have qac1 := fun q : Bel w0 => q.cell ac1
    have qac2 := fun q : Bel w0 => q.cell ac2
    have qac3 := fun q : Bel w0 => q.cell ac3
    have kIq := fun q : Bel w0 => kI q.W ((HT.out.below HA0.out.2.2.2 HT.out.pos).below q.h (Nat.lt_of_lt_of_le HT.out.pos HA0.out.2.2.2.size))
    refine wp_region_below (by kernel_rfl) (by kernel_rfl) ?_
    repeat (go_big_quiet_step ((go_at_call 73; exact bel_of (kIq _))))
    refine wpQuiet_nil ?_
    intro _ hw'
    obtain ⟨pq, hw''⟩ := hw'
    subst hw''
    obtain ⟨w1, hw1⟩ : ∃ W, pq.W = W := ⟨_, rfl⟩
    have HA1 : Hid (Trp w w1 ⟨yh, yt, ya, yv, yn, yd⟩ (.slice p m cap) ⟨yh + 1, t, aa, v, n, d⟩ ⟨ch, cr, ci, cl⟩ b cb) := by rw [← hw1]; exact HA0.out.step pq.h
    rw [hw1]
    clear qay0 qay1 qay2 qay3 qay4 qay5 qay6 qax0 qax1 qax2 qax3 qax4 qax5 qac0 qac1 qac2 qac3 kIq hn
    clear ay0 ay1 ay2 ay3 ay4 ay5 ay6 ax0 ax1 ax2 ax3 ax4 ax5 ac0 ac1 ac2 ac3 HA0 hw0 hw1 pq
    obtain ⟨⟨ay0, ay1, ay2, ay3, ay4, ay5, ay6⟩, ⟨ax0, ax1, ax2, ax3, ax4, ax5⟩, ⟨ac0, ac1, ac2, ac3⟩⟩ := hflat _ HA1.out
    go_wp2
    go_ret
    exact ⟨rfl, HA1.out.2.2.2⟩
  rw [if_pos c6] at HE1
  have ec6 : (aa.toList == I.toList) = true := by rw [beq_str]; simp [c6]
  clear c6
  by_cases c7 : v = yn
  rotate_left
  · rw [if_neg c7] at HE1
    have ec7 : (v.toList == yn.toList) = false := by rw [beq_str]; simp [c7]
    clear c7
    have HF2 : Hid (errV N = .iface 114 (.agg #[.int .i64 7])) := by show _ = _; rw [HE1]; rfl
    rw [HF2.out]
    clear HE1 HF2
    obtain ⟨w0, hw0⟩ : ∃ W, ((w.alloc (Obj.cells #[Value.int .i64 yh, Value.int .i64 yt, Value.string ya, Value.string yv, Value.string yn, Value.string yd, Value.slice p m cap] 30)).alloc (Obj.cells #[Value.int .i64 (yh + 1), Value.int .i64 t, Value.string aa, Value.string v, Value.string n, Value.string d] 27)).alloc (Obj.cells #[Value.int .i64 ch, Value.int .i64 cr, Value.string ci, Value.slice b cl.length cb] 33) = W := ⟨_, rfl⟩
    have HA0 : Hid (Trp w w0 ⟨yh, yt, ya, yv, yn, yd⟩ (.slice p m cap) ⟨yh + 1, t, aa, v, n, d⟩ ⟨ch, cr, ci, cl⟩ b cb) := by rw [← hw0]; exact H0.out
    clear H0
    obtain ⟨⟨ay0, ay1, ay2, ay3, ay4, ay5, ay6⟩, ⟨ax0, ax1, ax2, ax3, ax4, ax5⟩, ⟨ac0, ac1, ac2, ac3⟩⟩ := hflat _ HA0.out
    go_enter Tryz.func39, Tryz.ntmps39
    go_wp2_with fail
    try rw [hw0]
    have hn := bel_some w0
    have qay0 := fun q : Bel w0 => q.cell ay0
    have qay1 := fun q : Bel w0 => q.cell ay1
    have qay2 := fun q : Bel w0 => q.cell ay2
    have qay3 := fun q : Bel w0 => q.cell ay3
    have qay4 := fun q : Bel w0 => q.cell ay4
    have qay5 := fun q : Bel w0 => q.cell ay5
    have qay6 := fun q : Bel w0 => q.cell ay6
    have qax0 := fun q : Bel w0 => q.cell ax0
    have qax1 := fun q : Bel w0 => q.cell ax1
    have qax2 := fun q : Bel w0 => q.cell ax2
    have qax3 := fun q : Bel w0 => q.cell ax3
    have qax4 := fun q : Bel w0 => q.cell ax4
    have qax5 := fun q : Bel w0 => q.cell ax5
    have qac0 := fun q : Bel w0 => q.cell ac0
    have qac1 := fun q : Bel w0 => q.cell ac1
    have qac2 := fun q : Bel w0 => q.cell ac2
    have qac3 := fun q : Bel w0 => q.cell ac3
    have kIq := fun q : Bel w0 => kI q.W ((HT.out.below HA0.out.2.2.2 HT.out.pos).below q.h (Nat.lt_of_lt_of_le HT.out.pos HA0.out.2.2.2.size))
    refine wp_region_below (by kernel_rfl) (by kernel_rfl) ?_
    repeat (go_big_quiet_step ((go_at_call 73; exact bel_of (kIq _))))
    refine wpQuiet_nil ?_
    intro _ hw'
    obtain ⟨pq, hw''⟩ := hw'
    subst hw''
    obtain ⟨w1, hw1⟩ : ∃ W, pq.W = W := ⟨_, rfl⟩
    have HA1 : Hid (Trp w w1 ⟨yh, yt, ya, yv, yn, yd⟩ (.slice p m cap) ⟨yh + 1, t, aa, v, n, d⟩ ⟨ch, cr, ci, cl⟩ b cb) := by rw [← hw1]; exact HA0.out.step pq.h
    rw [hw1]
    clear qay0 qay1 qay2 qay3 qay4 qay5 qay6 qax0 qax1 qax2 qax3 qax4 qax5 qac0 qac1 qac2 qac3 kIq hn
    clear ay0 ay1 ay2 ay3 ay4 ay5 ay6 ax0 ax1 ax2 ax3 ax4 ax5 ac0 ac1 ac2 ac3 HA0 hw0 hw1 pq
    obtain ⟨⟨ay0, ay1, ay2, ay3, ay4, ay5, ay6⟩, ⟨ax0, ax1, ax2, ax3, ax4, ax5⟩, ⟨ac0, ac1, ac2, ac3⟩⟩ := hflat _ HA1.out
    go_wp2
    go_ret
    exact ⟨rfl, HA1.out.2.2.2⟩
  rw [if_pos c7] at HE1
  have ec7 : (v.toList == yn.toList) = true := by rw [beq_str]; simp [c7]
  clear c7
  by_cases c8 : n = S
  rotate_left
  · rw [if_neg c8] at HE1
    have ec8 : (n.toList == S.toList) = false := by rw [beq_str]; simp [c8]
    clear c8
    have HF2 : Hid (errV N = .iface 114 (.agg #[.int .i64 8])) := by show _ = _; rw [HE1]; rfl
    rw [HF2.out]
    clear HE1 HF2
    obtain ⟨w0, hw0⟩ : ∃ W, ((w.alloc (Obj.cells #[Value.int .i64 yh, Value.int .i64 yt, Value.string ya, Value.string yv, Value.string yn, Value.string yd, Value.slice p m cap] 30)).alloc (Obj.cells #[Value.int .i64 (yh + 1), Value.int .i64 t, Value.string aa, Value.string v, Value.string n, Value.string d] 27)).alloc (Obj.cells #[Value.int .i64 ch, Value.int .i64 cr, Value.string ci, Value.slice b cl.length cb] 33) = W := ⟨_, rfl⟩
    have HA0 : Hid (Trp w w0 ⟨yh, yt, ya, yv, yn, yd⟩ (.slice p m cap) ⟨yh + 1, t, aa, v, n, d⟩ ⟨ch, cr, ci, cl⟩ b cb) := by rw [← hw0]; exact H0.out
    clear H0
    obtain ⟨⟨ay0, ay1, ay2, ay3, ay4, ay5, ay6⟩, ⟨ax0, ax1, ax2, ax3, ax4, ax5⟩, ⟨ac0, ac1, ac2, ac3⟩⟩ := hflat _ HA0.out
    go_enter Tryz.func39, Tryz.ntmps39
    go_wp2_with fail
    try rw [hw0]
    have hn := bel_some w0
    have qay0 := fun q : Bel w0 => q.cell ay0
    have qay1 := fun q : Bel w0 => q.cell ay1
    have qay2 := fun q : Bel w0 => q.cell ay2
    have qay3 := fun q : Bel w0 => q.cell ay3
    have qay4 := fun q : Bel w0 => q.cell ay4
    have qay5 := fun q : Bel w0 => q.cell ay5
    have qay6 := fun q : Bel w0 => q.cell ay6
    have qax0 := fun q : Bel w0 => q.cell ax0
    have qax1 := fun q : Bel w0 => q.cell ax1
    have qax2 := fun q : Bel w0 => q.cell ax2
    have qax3 := fun q : Bel w0 => q.cell ax3
    have qax4 := fun q : Bel w0 => q.cell ax4
    have qax5 := fun q : Bel w0 => q.cell ax5
    have qac0 := fun q : Bel w0 => q.cell ac0
    have qac1 := fun q : Bel w0 => q.cell ac1
    have qac2 := fun q : Bel w0 => q.cell ac2
    have qac3 := fun q : Bel w0 => q.cell ac3
    have kIq := fun q : Bel w0 => kI q.W ((HT.out.below HA0.out.2.2.2 HT.out.pos).below q.h (Nat.lt_of_lt_of_le HT.out.pos HA0.out.2.2.2.size))
    refine wp_region_below (by kernel_rfl) (by kernel_rfl) ?_
    repeat (go_big_quiet_step ((go_at_call 73; exact bel_of (kIq _))))
    refine wpQuiet_nil ?_
    intro _ hw'
    obtain ⟨pq, hw''⟩ := hw'
    subst hw''
    obtain ⟨w1, hw1⟩ : ∃ W, pq.W = W := ⟨_, rfl⟩
    have HA1 : Hid (Trp w w1 ⟨yh, yt, ya, yv, yn, yd⟩ (.slice p m cap) ⟨yh + 1, t, aa, v, n, d⟩ ⟨ch, cr, ci, cl⟩ b cb) := by rw [← hw1]; exact HA0.out.step pq.h
    rw [hw1]
    clear qay0 qay1 qay2 qay3 qay4 qay5 qay6 qax0 qax1 qax2 qax3 qax4 qax5 qac0 qac1 qac2 qac3 kIq hn
    clear ay0 ay1 ay2 ay3 ay4 ay5 ay6 ax0 ax1 ax2 ax3 ax4 ax5 ac0 ac1 ac2 ac3 HA0 hw0 hw1 pq
    obtain ⟨⟨ay0, ay1, ay2, ay3, ay4, ay5, ay6⟩, ⟨ax0, ax1, ax2, ax3, ax4, ax5⟩, ⟨ac0, ac1, ac2, ac3⟩⟩ := hflat _ HA1.out
    go_wp2_with fail
    have hn := bel_some w1
    have qay0 := fun q : Bel w1 => q.cell ay0
    have qay1 := fun q : Bel w1 => q.cell ay1
    have qay2 := fun q : Bel w1 => q.cell ay2
    have qay3 := fun q : Bel w1 => q.cell ay3
    have qay4 := fun q : Bel w1 => q.cell ay4
    have qay5 := fun q : Bel w1 => q.cell ay5
    have qay6 := fun q : Bel w1 => q.cell ay6
    have qax0 := fun q : Bel w1 => q.cell ax0
    have qax1 := fun q : Bel w1 => q.cell ax1
    have qax2 := fun q : Bel w1 => q.cell ax2
    have qax3 := fun q : Bel w1 => q.cell ax3
    have qax4 := fun q : Bel w1 => q.cell ax4
    have qax5 := fun q : Bel w1 => q.cell ax5
    have qac0 := fun q : Bel w1 => q.cell ac0
    have qac1 := fun q : Bel w1 => q.cell ac1
    have qac2 := fun q : Bel w1 => q.cell ac2
    have qac3 := fun q : Bel w1 => q.cell ac3
    have kVq := fun q : Bel w1 => kV q.W ((HN.out.below HA1.out.2.2.2).below q.h) ((HT.out.below HA1.out.2.2.2 HT.out.pos).below q.h (Nat.lt_of_lt_of_le HT.out.pos HA1.out.2.2.2.size))
    refine wp_region_below (by kernel_rfl) (by kernel_rfl) ?_
    repeat (go_big_quiet_step ((go_at_call 74; exact bel_of (kVq _))))
    refine wpQuiet_nil ?_
    intro _ hw'
    obtain ⟨pq, hw''⟩ := hw'
    subst hw''
    obtain ⟨w2, hw2⟩ : ∃ W, pq.W = W := ⟨_, rfl⟩
    have HA2 : Hid (Trp w w2 ⟨yh, yt, ya, yv, yn, yd⟩ (.slice p m cap) ⟨yh + 1, t, aa, v, n, d⟩ ⟨ch, cr, ci, cl⟩ b cb) := by rw [← hw2]; exact HA1.out.step pq.h
    rw [hw2]
    clear qay0 qay1 qay2 qay3 qay4 qay5 qay6 qax0 qax1 qax2 qax3 qax4 qax5 qac0 qac1 qac2 qac3 kVq hn
    clear ay0 ay1 ay2 ay3 ay4 ay5 ay6 ax0 ax1 ax2 ax3 ax4 ax5 ac0 ac1 ac2 ac3 HA1 hw2 pq
    obtain ⟨⟨ay0, ay1, ay2, ay3, ay4, ay5, ay6⟩, ⟨ax0, ax1, ax2, ax3, ax4, ax5⟩, ⟨ac0, ac1, ac2, ac3⟩⟩ := hflat _ HA2.out
    go_wp2
    go_ret
    exact ⟨rfl, HA2.out.2.2.2⟩
  rw [if_pos c8] at HE1
  have ec8 : (n.toList == S.toList) = true := by rw [beq_str]; simp [c8]
  clear c8
  by_cases c9 : O = true
  rotate_left
  · rw [if_neg c9] at HE1
    have c9' : O = false := by simpa using c9
    rw [c9'] at kC
    clear c9 c9'
    have HF2 : Hid (errV N = .iface 114 (.agg #[.int .i64 9])) := by show _ = _; rw [HE1]; rfl
    rw [HF2.out]
    clear HE1 HF2
    obtain ⟨w0, hw0⟩ : ∃ W, ((w.alloc (Obj.cells #[Value.int .i64 yh, Value.int .i64 yt, Value.string ya, Value.string yv, Value.string yn, Value.string yd, Value.slice p m cap] 30)).alloc (Obj.cells #[Value.int .i64 (yh + 1), Value.int .i64 t, Value.string aa, Value.string v, Value.string n, Value.string d] 27)).alloc (Obj.cells #[Value.int .i64 ch, Value.int .i64 cr, Value.string ci, Value.slice b cl.length cb] 33) = W := ⟨_, rfl⟩
    have HA0 : Hid (Trp w w0 ⟨yh, yt, ya, yv, yn, yd⟩ (.slice p m cap) ⟨yh + 1, t, aa, v, n, d⟩ ⟨ch, cr, ci, cl⟩ b cb) := by rw [← hw0]; exact H0.out
    clear H0
    obtain ⟨⟨ay0, ay1, ay2, ay3, ay4, ay5, ay6⟩, ⟨ax0, ax1, ax2, ax3, ax4, ax5⟩, ⟨ac0, ac1, ac2, ac3⟩⟩ := hflat _ HA0.out
    go_enter Tryz.func39, Tryz.ntmps39
    go_wp2_with fail
    try rw [hw0]
    have hn := bel_some w0
    have qay0 := fun q : Bel w0 => q.cell ay0
    have qay1 := fun q : Bel w0 => q.cell ay1
    have qay2 := fun q : Bel w0 => q.cell ay2
    have qay3 := fun q : Bel w0 => q.cell ay3
    have qay4 := fun q : Bel w0 => q.cell ay4
    have qay5 := fun q : Bel w0 => q.cell ay5
    have qay6 := fun q : Bel w0 => q.cell ay6
    have qax0 := fun q : Bel w0 => q.cell ax0
    have qax1 := fun q : Bel w0 => q.cell ax1
    have qax2 := fun q : Bel w0 => q.cell ax2
    have qax3 := fun q : Bel w0 => q.cell ax3
    have qax4 := fun q : Bel w0 => q.cell ax4
    have qax5 := fun q : Bel w0 => q.cell ax5
    have qac0 := fun q : Bel w0 => q.cell ac0
    have qac1 := fun q : Bel w0 => q.cell ac1
    have qac2 := fun q : Bel w0 => q.cell ac2
    have qac3 := fun q : Bel w0 => q.cell ac3
    have kIq := fun q : Bel w0 => kI q.W ((HT.out.below HA0.out.2.2.2 HT.out.pos).below q.h (Nat.lt_of_lt_of_le HT.out.pos HA0.out.2.2.2.size))
    refine wp_region_below (by kernel_rfl) (by kernel_rfl) ?_
    repeat (go_big_quiet_step ((go_at_call 73; exact bel_of (kIq _))))
    refine wpQuiet_nil ?_
    intro _ hw'
    obtain ⟨pq, hw''⟩ := hw'
    subst hw''
    obtain ⟨w1, hw1⟩ : ∃ W, pq.W = W := ⟨_, rfl⟩
    have HA1 : Hid (Trp w w1 ⟨yh, yt, ya, yv, yn, yd⟩ (.slice p m cap) ⟨yh + 1, t, aa, v, n, d⟩ ⟨ch, cr, ci, cl⟩ b cb) := by rw [← hw1]; exact HA0.out.step pq.h
    rw [hw1]
    clear qay0 qay1 qay2 qay3 qay4 qay5 qay6 qax0 qax1 qax2 qax3 qax4 qax5 qac0 qac1 qac2 qac3 kIq hn
    clear ay0 ay1 ay2 ay3 ay4 ay5 ay6 ax0 ax1 ax2 ax3 ax4 ax5 ac0 ac1 ac2 ac3 HA0 hw0 hw1 pq
    obtain ⟨⟨ay0, ay1, ay2, ay3, ay4, ay5, ay6⟩, ⟨ax0, ax1, ax2, ax3, ax4, ax5⟩, ⟨ac0, ac1, ac2, ac3⟩⟩ := hflat _ HA1.out
    go_wp2_with fail
    have hn := bel_some w1
    have qay0 := fun q : Bel w1 => q.cell ay0
    have qay1 := fun q : Bel w1 => q.cell ay1
    have qay2 := fun q : Bel w1 => q.cell ay2
    have qay3 := fun q : Bel w1 => q.cell ay3
    have qay4 := fun q : Bel w1 => q.cell ay4
    have qay5 := fun q : Bel w1 => q.cell ay5
    have qay6 := fun q : Bel w1 => q.cell ay6
    have qax0 := fun q : Bel w1 => q.cell ax0
    have qax1 := fun q : Bel w1 => q.cell ax1
    have qax2 := fun q : Bel w1 => q.cell ax2
    have qax3 := fun q : Bel w1 => q.cell ax3
    have qax4 := fun q : Bel w1 => q.cell ax4
    have qax5 := fun q : Bel w1 => q.cell ax5
    have qac0 := fun q : Bel w1 => q.cell ac0
    have qac1 := fun q : Bel w1 => q.cell ac1
    have qac2 := fun q : Bel w1 => q.cell ac2
    have qac3 := fun q : Bel w1 => q.cell ac3
    have kVq := fun q : Bel w1 => kV q.W ((HN.out.below HA1.out.2.2.2).below q.h) ((HT.out.below HA1.out.2.2.2 HT.out.pos).below q.h (Nat.lt_of_lt_of_le HT.out.pos HA1.out.2.2.2.size))
    refine wp_region_below (by kernel_rfl) (by kernel_rfl) ?_
    repeat (go_big_quiet_step ((go_at_call 74; exact bel_of (kVq _))))
    refine wpQuiet_nil ?_
    intro _ hw'
    obtain ⟨pq, hw''⟩ := hw'
    subst hw''
    obtain ⟨w2, hw2⟩ : ∃ W, pq.W = W := ⟨_, rfl⟩
    have HA2 : Hid (Trp w w2 ⟨yh, yt, ya, yv, yn, yd⟩ (.slice p m cap) ⟨yh + 1, t, aa, v, n, d⟩ ⟨ch, cr, ci, cl⟩ b cb) := by rw [← hw2]; exact HA1.out.step pq.h
    rw [hw2]
    clear qay0 qay1 qay2 qay3 qay4 qay5 qay6 qax0 qax1 qax2 qax3 qax4 qax5 qac0 qac1 qac2 qac3 kVq hn
    clear ay0 ay1 ay2 ay3 ay4 ay5 ay6 ax0 ax1 ax2 ax3 ax4 ax5 ac0 ac1 ac2 ac3 HA1 hw2 pq
    obtain ⟨⟨ay0, ay1, ay2, ay3, ay4, ay5, ay6⟩, ⟨ax0, ax1, ax2, ax3, ax4, ax5⟩, ⟨ac0, ac1, ac2, ac3⟩⟩ := hflat _ HA2.out
    go_wp2_with fail
    refine (kC _ (HL.out.below HA2.out.2.2.2) (HS.out.below HA2.out.2.2.2) (HT.out.below HA2.out.2.2.2 HT.out.pos)).mono ?_
    rintro e w3 ⟨rfl, bb⟩
    have HA3 : Hid (Trp w w3 ⟨yh, yt, ya, yv, yn, yd⟩ (.slice p m cap) ⟨yh + 1, t, aa, v, n, d⟩ ⟨ch, cr, ci, cl⟩ b cb) := HA2.out.step bb
    clear bb HA2
    go_wp2
    go_ret
    exact ⟨rfl, HA3.out.2.2.2⟩
  rw [if_pos c9] at HE1
  rw [c9] at kC
  clear c9
  have HF2 : Hid (errV N = .nilIface) := by show _ = _; rw [HE1]; rfl
  rw [HF2.out]
  clear HE1 HF2
  obtain ⟨w0, hw0⟩ : ∃ W, ((w.alloc (Obj.cells #[Value.int .i64 yh, Value.int .i64 yt, Value.string ya, Value.string yv, Value.string yn, Value.string yd, Value.slice p m cap] 30)).alloc (Obj.cells #[Value.int .i64 (yh + 1), Value.int .i64 t, Value.string aa, Value.string v, Value.string n, Value.string d] 27)).alloc (Obj.cells #[Value.int .i64 ch, Value.int .i64 cr, Value.string ci, Value.slice b cl.length cb] 33) = W := ⟨_, rfl⟩
  have HA0 : Hid (Trp w w0 ⟨yh, yt, ya, yv, yn, yd⟩ (.slice p m cap) ⟨yh + 1, t, aa, v, n, d⟩ ⟨ch, cr, ci, cl⟩ b cb) := by rw [← hw0]; exact H0.out
  clear H0
  obtain ⟨⟨ay0, ay1, ay2, ay3, ay4, ay5, ay6⟩, ⟨ax0, ax1, ax2, ax3, ax4, ax5⟩, ⟨ac0, ac1, ac2, ac3⟩⟩ := hflat _ HA0.out
  go_enter Tryz.func39, Tryz.ntmps39
  go_wp2_with fail
  try rw [hw0]
  have hn := bel_some w0
  have qay0 := fun q : Bel w0 => q.cell ay0
  have qay1 := fun q : Bel w0 => q.cell ay1
  have qay2 := fun q : Bel w0 => q.cell ay2
  have qay3 := fun q : Bel w0 => q.cell ay3
  have qay4 := fun q : Bel w0 => q.cell ay4
  have qay5 := fun q : Bel w0 => q.cell ay5
  have qay6 := fun q : Bel w0 => q.cell ay6
  have qax0 := fun q : Bel w0 => q.cell ax0
  have qax1 := fun q : Bel w0 => q.cell ax1
  have qax2 := fun q : Bel w0 => q.cell ax2
  have qax3 := fun q : Bel w0 => q.cell ax3
  have qax4 := fun q : Bel w0 => q.cell ax4
  have qax5 := fun q : Bel w0 => q.cell ax5
  have qac0 := fun q : Bel w0 => q.cell ac0
  have qac1 := fun q : Bel w0 => q.cell ac1
  have qac2 := fun q : Bel w0 => q.cell ac2
  have qac3 := fun q : Bel w0 => q.cell ac3
  have kIq := fun q : Bel w0 => kI q.W ((HT.out.below HA0.out.2.2.2 HT.out.pos).below q.h (Nat.lt_of_lt_of_le HT.out.pos HA0.out.2.2.2.size))
  refine wp_region_below (by kernel_rfl) (by kernel_rfl) ?_
  repeat (go_big_quiet_step ((go_at_call 73; exact bel_of (kIq _))))
  refine wpQuiet_nil ?_
  intro _ hw'
  obtain ⟨pq, hw''⟩ := hw'
  subst hw''
  obtain ⟨w1, hw1⟩ : ∃ W, pq.W = W := ⟨_, rfl⟩
  have HA1 : Hid (Trp w w1 ⟨yh, yt, ya, yv, yn, yd⟩ (.slice p m cap) ⟨yh + 1, t, aa, v, n, d⟩ ⟨ch, cr, ci, cl⟩ b cb) := by rw [← hw1]; exact HA0.out.step pq.h
  rw [hw1]
  clear qay0 qay1 qay2 qay3 qay4 qay5 qay6 qax0 qax1 qax2 qax3 qax4 qax5 qac0 qac1 qac2 qac3 kIq hn
  clear ay0 ay1 ay2 ay3 ay4 ay5 ay6 ax0 ax1 ax2 ax3 ax4 ax5 ac0 ac1 ac2 ac3 HA0 hw0 hw1 pq
  obtain ⟨⟨ay0, ay1, ay2, ay3, ay4, ay5, ay6⟩, ⟨ax0, ax1, ax2, ax3, ax4, ax5⟩, ⟨ac0, ac1, ac2, ac3⟩⟩ := hflat _ HA1.out
  go_wp2_with fail
  have hn := bel_some w1
  have qay0 := fun q : Bel w1 => q.cell ay0
  have qay1 := fun q : Bel w1 => q.cell ay1
  have qay2 := fun q : Bel w1 => q.cell ay2
  have qay3 := fun q : Bel w1 => q.cell ay3
  have qay4 := fun q : Bel w1 => q.cell ay4
  have qay5 := fun q : Bel w1 => q.cell ay5
  have qay6 := fun q : Bel w1 => q.cell ay6
  have qax0 := fun q : Bel w1 => q.cell ax0
  have qax1 := fun q : Bel w1 => q.cell ax1
  have qax2 := fun q : Bel w1 => q.cell ax2
  have qax3 := fun q : Bel w1 => q.cell ax3
  have qax4 := fun q : Bel w1 => q.cell ax4
  have qax5 := fun q : Bel w1 => q.cell ax5
  have qac0 := fun q : Bel w1 => q.cell ac0
  have qac1 := fun q : Bel w1 => q.cell ac1
  have qac2 := fun q : Bel w1 => q.cell ac2
  have qac3 := fun q : Bel w1 => q.cell ac3
  have kVq := fun q : Bel w1 => kV q.W ((HN.out.below HA1.out.2.2.2).below q.h) ((HT.out.below HA1.out.2.2.2 HT.out.pos).below q.h (Nat.lt_of_lt_of_le HT.out.pos HA1.out.2.2.2.size))
  refine wp_region_below (by kernel_rfl) (by kernel_rfl) ?_
  repeat (go_big_quiet_step ((go_at_call 74; exact bel_of (kVq _))))
  refine wpQuiet_nil ?_
  intro _ hw'
  obtain ⟨pq, hw''⟩ := hw'
  subst hw''
  obtain ⟨w2, hw2⟩ : ∃ W, pq.W = W := ⟨_, rfl⟩
  have HA2 : Hid (Trp w w2 ⟨yh, yt, ya, yv, yn, yd⟩ (.slice p m cap) ⟨yh + 1, t, aa, v, n, d⟩ ⟨ch, cr, ci, cl⟩ b cb) := by rw [← hw2]; exact HA1.out.step pq.h
  rw [hw2]
  clear qay0 qay1 qay2 qay3 qay4 qay5 qay6 qax0 qax1 qax2 qax3 qax4 qax5 qac0 qac1 qac2 qac3 kVq hn
  clear ay0 ay1 ay2 ay3 ay4 ay5 ay6 ax0 ax1 ax2 ax3 ax4 ax5 ac0 ac1 ac2 ac3 HA1 hw2 pq
  obtain ⟨⟨ay0, ay1, ay2, ay3, ay4, ay5, ay6⟩, ⟨ax0, ax1, ax2, ax3, ax4, ax5⟩, ⟨ac0, ac1, ac2, ac3⟩⟩ := hflat _ HA2.out
  go_wp2_with fail
  refine (kC _ (HL.out.below HA2.out.2.2.2) (HS.out.below HA2.out.2.2.2) (HT.out.below HA2.out.2.2.2 HT.out.pos)).mono ?_
  rintro e w3 ⟨rfl, bb⟩
  have HA3 : Hid (Trp w w3 ⟨yh, yt, ya, yv, yn, yd⟩ (.slice p m cap) ⟨yh + 1, t, aa, v, n, d⟩ ⟨ch, cr, ci, cl⟩ b cb) := HA2.out.step bb
  clear bb HA2
  go_wp2
  go_ret
  exact ⟨rfl, HA3.out.2.2.2⟩
end Go.Proofs.YtajfmjgaaapjeaaGreatDoor
