/- The walk of the exact law of Verify: it answers true, old memory stays. Conditions: what a machine can hold, the listed variables. -/
import Derived.Test.YtajfmjgaaapjeaaGreatDoorGC
import Derived.Test.YtajfmjgaaapjeaaGreatDoorRo
import Derived.Deep.RegionHeld3
import Derived.Deep.DeepCutAuto
import Derived.Deep.CutBlock
namespace Go.Proofs.YtajfmjgaaapjeaaGreatDoor
open Go.RowKit
open Num
set_option linter.unusedVariables false
theorem Rr.set {w : World} {lo hi ne : Nat} {a : Option Addr} {l : List V} (h : Rr w lo hi ne a l) (j : Nat) (u : Value) : Rr (w.setCell ⟨ne, j, none⟩ u) lo hi ne a l :=
  h.imp id fun ⟨b, h1, h2, h3, h4, h5, h6, h7⟩ => ⟨b, h1, h2, h3, h4, by simpa [World.setCell] using h5, h6.other ne j u (fun e => h4 e.symm), h7.set ne j u⟩
theorem Rr.top {w : World} {lo hi ne : Nat} {a : Option Addr} {l : List V} (h : Rr w lo hi ne a l) : Rr w lo w.heap.size ne a l :=
  h.imp id fun ⟨b, h1, h2, h3, h4, h5, h6⟩ => ⟨b, h1, h2, h5, h4, h5, h6⟩
/-- A copy that the call laid, from toValS. -/
theorem to_valsC (a : Option Addr) (l : List V) (cap : Nat) (w : World) (hl : VO w a l) (hlen : l.length ≤ 1048576) :
    Calls Tryz.prog 21 #[.slice a l.length cap] w fun e w' => ∃ u, e = .returned (.slice u l.length l.length) ∧ Hid (Cpv w' w.heap.size u l) ∧ Below w.heap.size w w' :=
  (toValS_any a l cap w hl hlen).mono fun e w' ⟨h1, h2, h3, h4⟩ => ⟨_, h1, ⟨w.heap.size, rfl, Nat.le_refl _, by
    rcases Nat.eq_zero_or_pos l.length with h0 | h0
    · exact .inl h0
    · exact .inr (World.block_lt_of_cell? w' _ (h2 0 h0).1), h2, h3⟩, h4⟩
/-- The law's arguments in their blocks; old memory stands. -/
def Arg (w W : World) (t : Tr) (y : H) (q : Value) (x : H) (c : Ct) (b : Option Addr) (cb : Nat) : Prop := Blk W w.heap.size [.int .i64 t.p, .int .i64 t.s] 44 ∧ Blk W (w.heap.size + 1) (acs y q) 48 ∧ Blk W (w.heap.size + 2) (hcs x).toList 45 ∧ Blk W (w.heap.size + 3) (ccs c b cb) 51 ∧ Below w.heap.size w W
theorem Arg.step {w W W' : World} {t : Tr} {y : H} {q : Value} {x : H} {c : Ct} {b : Option Addr} {cb : Nat} (h : Arg w W t y q x c b cb) (hb : Below W.heap.size W W') : Arg w W' t y q x c b cb :=
  ⟨h.1.below hb h.1.lt, h.2.1.below hb h.2.1.lt, h.2.2.1.below hb h.2.2.1.lt, h.2.2.2.1.below hb h.2.2.2.1.lt, h.2.2.2.2.trans (hb.mono h.2.2.2.2.size)⟩
theorem Arg.mark {w W W' : World} {t : Tr} {y : H} {q : Value} {x : H} {c : Ct} {b : Option Addr} {cb : Nat} {r : Option Nat} (h : Arg w W t y q x c b cb) (hg : W.grownBy W' r) (hr : ∀ j, r = some j → w.heap.size + 4 ≤ j) : Arg w W' t y q x c b cb := by
  have hn : ∀ g, g < w.heap.size + 4 → r ≠ some g := fun g hlt e => by have := hr g e; omega
  exact ⟨h.1.grown hg (hn _ (by omega)), h.2.1.grown hg (hn _ (by omega)), h.2.2.1.grown hg (hn _ (by omega)), h.2.2.2.1.grown hg (hn _ (by omega)), h.2.2.2.2.grown hg h.2.2.2.2.size (fun j e => by have := hr j e; omega)⟩
def argW (w : World) (t : Tr) (y : H) (q : Value) (x : H) (c : Ct) (b : Option Addr) (cb : Nat) : World := (((w.alloc (.cells (trcs t) 44)).alloc (.cells (acs y q).toArray 48)).alloc (.cells (hcs x) 45)).alloc (.cells (ccs c b cb).toArray 51)
theorem arg_new (w : World) (t : Tr) (y : H) (q : Value) (x : H) (c : Ct) (b : Option Addr) (cb : Nat) : Arg w (argW w t y q x c b cb) t y q x c b cb := by
  have e1 : (w.alloc (.cells (trcs t) 44)).heap.size = w.heap.size + 1 := by simp
  have e2 : ((w.alloc (.cells (trcs t) 44)).alloc (.cells (acs y q).toArray 48)).heap.size = w.heap.size + 2 := by simp
  have e3 : (((w.alloc (.cells (trcs t) 44)).alloc (.cells (acs y q).toArray 48)).alloc (.cells (hcs x) 45)).heap.size = w.heap.size + 3 := by simp
  unfold argW
  refine ⟨?_, ?_, ?_, ?_, ?_⟩
  · exact (((blk_new w [.int .i64 t.p, .int .i64 t.s] _).alloc _).alloc _).alloc _
  · have h := ((blk_new (w.alloc (.cells (trcs t) 44)) (acs y q) 48).alloc (.cells (hcs x) 45)).alloc (.cells (ccs c b cb).toArray 51)
    rw [e1] at h; exact h
  · have h := (blk_new ((w.alloc (.cells (trcs t) 44)).alloc (.cells (acs y q).toArray 48)) (hcs x).toList 45).alloc (.cells (ccs c b cb).toArray 51)
    rw [e2] at h; exact h
  · have h := blk_new (((w.alloc (.cells (trcs t) 44)).alloc (.cells (acs y q).toArray 48)).alloc (.cells (hcs x) 45)) (ccs c b cb) 51
    rw [e3] at h; exact h
  · exact (((below_one _ _).alloc (by simp) _).alloc (by simp; omega) _).alloc (by simp; omega) _
theorem Rr.low {w : World} {lo lo' hi ne : Nat} {a : Option Addr} {l : List V} (h : Rr w lo hi ne a l) (hl : lo' ≤ lo) : Rr w lo' hi ne a l :=
  h.imp id fun ⟨b, h1, h2, h3⟩ => ⟨b, h1, Nat.le_trans hl h2, h3⟩
theorem mk_far {w w' : World} {B n : Nat} {a : Option Addr} {r : Option Nat} (h : Mk w B a n) (hg : w.grownBy w' r) (hr : ∀ j, r = some j → j < B) : Mk w' B a n := by
  rcases h with h | ⟨b, h1, h2, h3, h4⟩
  · exact .inl h
  · have hbl := hg.block b h3 (fun e => by have := hr b e.symm; omega)
    have hc : ∀ j, w'.cell? ⟨b, j, none⟩ = w.cell? ⟨b, j, none⟩ := fun j => World.cell?_of_block hbl
    have hf : ∀ j, w'.frozen? ⟨b, j, none⟩ = w.frozen? ⟨b, j, none⟩ := fun j => by unfold World.frozen?; rw [hbl]
    exact .inr ⟨b, h1, h2, Nat.lt_of_lt_of_le h3 hg.size, fun j hj => by rw [hc, hf]; exact h4 j hj⟩
/-- What a drawn region leaves: a variable laid from S on, its row of the call's own. -/
def Lft (w W : World) (G : Nat) (cs : List Value) (u : Option Addr) (l : List V) : Prop := (w.heap.size ≤ G ∧ Blk W G cs 30) ∧ Rr W w.heap.size W.heap.size G u l ∧ Below w.heap.size w W
set_option maxHeartbeats 12800000 in
set_option maxRecDepth 100000 in
theorem w_verify (t : Tr) (y : H) (l : List V) (p : Option Addr) (cap : Nat) (x : H) (nx : List V) (pn : Option Addr) (capn : Nat) (c : Ct) (b : Option Addr) (cb : Nat) (z : Int) (w : World) (hl : VO w p l) (hlen : l.length ≤ 9223372036854775807) (hy : Fits y) (hx : Fits x) (hn : VO w pn nx) (hlen2 : nx.length ≤ 9223372036854775807) (hs : SO w b c.l) (hz : SzOk c) (hT : Tab w) :
    Calls Tryz.prog 4 #[trV t, aV y (.slice p l.length cap), hV x, .slice pn nx.length capn, cV c b cb, .int .i64 z] w fun e w' => e = .returned (.bool true) ∧ Below w.heap.size w w' := by
  have H0 : Hid (Arg w (argW w t y (.slice p l.length cap) x c b cb) t y (.slice p l.length cap) x c b cb) := arg_new w t y _ x c b cb
  have HT : Hid (Tab w) := hT
  have HL : Hid (VO w p l) := hl
  have HN : Hid (VO w pn nx) := hn
  have HS : Hid (SO w b c.l) := hs
  have kz1 := fun W => sz_anchor y p l.length cap 1048576 W hy hlen (by omega) (by omega)
  have kz2 := fun (r : Int) W (h0 : 0 ≤ r) (h1 : r ≤ 1048576) => sz_headL x r W hx h0 h1
  have kz3 := fun (r : Int) W (h0 : 0 ≤ r) (h1 : r ≤ 1048576) => sz_any pn nx.length capn r W hlen2 h0 h1
  have kz4 := fun (r : Int) W (h : SO W b c.l) (h0 : 0 ≤ r) (h1 : r ≤ 1048576) => sz_com c b cb r W h hz h0 h1
  have kT := fun W => to_trust t W
  have kA := fun W (h : VO W p l) (hq : l.length ≤ 1048576) => to_anchor y l p cap W h hq
  have kX := fun W => to_head x W
  have kN := fun W (h : VO W pn nx) (hq : nx.length ≤ 1048576) => to_valsC pn nx capn W h hq
  have kC := fun W (h : SO W b c.l) (hq : c.l.length ≤ 1048576) => to_com c b cb W h hq
  have kS := fun (u un uc : Option Addr) (hq : l.length ≤ 1048576) (hq2 : nx.length ≤ 1048576) W (a1 : VO W u l) (a2 : u = none → l.length = 0) (a3 : VO W un nx) (a4 : un = none → nx.length = 0) (a5 : SO W uc c.l) => spec_verify t y l u l.length x nx un nx.length c uc c.l.length z W a1 a2 a3 a4 a5 (by omega) (by omega) hz.2.1
  have kI := fun (hsy : Sml y) (hsx : Sml x) (u un uc : Option Addr) (hq : l.length ≤ 1048576) (hq2 : nx.length ≤ 1048576) W (a1 : VO W u l) (a2 : u = none → l.length = 0) (a3 : VO W un nx) (a4 : un = none → nx.length = 0) (a5 : SO W uc c.l) (a6 : Tab W) => impl_verify t y l u l.length x nx un nx.length c uc c.l.length z W a1 a2 a3 a4 a5 (by omega) (by omega) hz.2.1 a6 hsy hsx
  have kE1 := fun (u u' : Option Addr) W (h : VO W u l) (h' : VO W u' l) (hq : l.length ≤ 1099511627776) => eq_anchor y l u u' l.length l.length W h h' hq
  have kEV : ∀ (u u' : Option Addr) W, VO W u nx → VO W u' nx → nx.length ≤ 1099511627776 → Calls Tryz.prog 24 #[.slice u nx.length nx.length, .slice u' nx.length nx.length] W fun e w' => e = .returned (.bool true) ∧ Below W.heap.size W w' := fun u u' W h h' hq => (eqValS_any u u' nx nx nx.length nx.length W h h' hq hq).mono (fun e w' ⟨h1, h2⟩ => ⟨by rw [h1]; simp, h2⟩)
  have kEC := fun (u u' : Option Addr) W (h : SO W u c.l) (h' : SO W u' c.l) (hq : c.l.length ≤ 1099511627776) => eq_com c u u' c.l.length c.l.length W h h' hq
  have kM1 := fun (u : Option Addr) (k lo hi ne : Nat) W (h : Rr W lo hi ne u l) (hq : l.length ≤ 1099511627776) (hk : k ≤ 1099511627776) => mark_anchor y u l.length l k lo hi ne W h hq hk
  have kM2 := fun (u : Option Addr) (k lo hi ne : Nat) W (h : Rr W lo hi ne u nx) (hq : nx.length ≤ 1099511627776) (hk : k ≤ 1099511627776) => mark_rr u nx.length nx k lo hi ne W h hq hk
  have kM3 := fun (u : Option Addr) (k B : Nat) W (h : Mk W B u c.l.length) (hq : c.l.length ≤ 1048576) (hk : k ≤ 1073741824) (hB : B ≤ W.heap.size) => mark_com c u c.l.length k B W h hq hk hB
  have HCM : Hid (∀ W B u, Cop W B c u → Mk W B u c.l.length) := fun W B u h => h.mk
  have HGL : Hid (l.length ≤ 1048576 → nx.length ≤ 1048576 → (nextA ⟨y, l⟩ x nx (verN t ⟨y, l⟩ x nx c z)).l.length ≤ 1048576) := fun h1 h2 => by
    unfold nextA
    split
    · exact h2
    · exact h1
  generalize verN t ⟨y, l⟩ x nx c z = N at *
  generalize nextA ⟨y, l⟩ x nx N = NA at *
  obtain ⟨⟨gh, gt, ga, gv, gn, gd⟩, gl⟩ := NA
  simp only at kS kI HGL
  have kEg := fun (u u' : Option Addr) (cu cu' : Nat) W (h : VO W u gl) (h' : VO W u' gl) (hq : gl.length ≤ 1099511627776) => eq_anchor ⟨gh, gt, ga, gv, gn, gd⟩ gl u u' cu cu' W h h' hq
  have kMg := fun (u : Option Addr) (cu k lo hi ne : Nat) W (h : Rr W lo hi ne u gl) (hq : gl.length ≤ 1099511627776) (hk : k ≤ 1099511627776) => mark_anchor ⟨gh, gt, ga, gv, gn, gd⟩ u cu gl k lo hi ne W h hq hk
  have kHg := fun (u : Option Addr) (cu k : Nat) W (h : VO W u (vmarks k gl.length)) (hq : gl.length ≤ 1099511627776) (hk : k ≤ 1099511627776) => held_anchor ⟨gh, gt, ga, gv, gn, gd⟩ u cu gl.length k W h hq hk
  clear hl hn hs hT hy hx
  obtain ⟨tp, ts⟩ := t
  obtain ⟨yh, yt, ya, yv, yn, yd⟩ := y
  obtain ⟨h, t, aa, v, n, d⟩ := x
  obtain ⟨ch, cr, ci, cl⟩ := c
  unfold trV aV hV cV at *
  unfold argW trcs acs hcs ccs at H0
  simp only at *
  have HPA : Hid (∀ W B u, Cpv W B u l → u = none → l.length = 0) := fun W B u h => h.nn
  have HPN : Hid (∀ W B u, Cpv W B u nx → u = none → nx.length = 0) := fun W B u h => h.nn
  have hzc := hz.2.1
  clear hz
  generalize l.length = m at *
  generalize nx.length = m' at *
  generalize gl.length = mg at *
  have hflat : ∀ W, Arg w W ⟨tp, ts⟩ ⟨yh, yt, ya, yv, yn, yd⟩ (.slice p m cap) ⟨h, t, aa, v, n, d⟩ ⟨ch, cr, ci, cl⟩ b cb → (W.cell? ⟨w.heap.size, 0, none⟩ = some (.int .i64 tp) ∧ W.cell? ⟨w.heap.size, 1, none⟩ = some (.int .i64 ts)) ∧ (W.cell? ⟨w.heap.size + 1, 0, none⟩ = some (.int .i64 yh) ∧ W.cell? ⟨w.heap.size + 1, 1, none⟩ = some (.int .i64 yt) ∧ W.cell? ⟨w.heap.size + 1, 2, none⟩ = some (.string ya) ∧ W.cell? ⟨w.heap.size + 1, 3, none⟩ = some (.string yv) ∧ W.cell? ⟨w.heap.size + 1, 4, none⟩ = some (.string yn) ∧ W.cell? ⟨w.heap.size + 1, 5, none⟩ = some (.string yd) ∧ W.cell? ⟨w.heap.size + 1, 6, none⟩ = some (.slice p m cap)) ∧ (W.cell? ⟨w.heap.size + 2, 0, none⟩ = some (.int .i64 h) ∧ W.cell? ⟨w.heap.size + 2, 1, none⟩ = some (.int .i64 t) ∧ W.cell? ⟨w.heap.size + 2, 2, none⟩ = some (.string aa) ∧ W.cell? ⟨w.heap.size + 2, 3, none⟩ = some (.string v) ∧ W.cell? ⟨w.heap.size + 2, 4, none⟩ = some (.string n) ∧ W.cell? ⟨w.heap.size + 2, 5, none⟩ = some (.string d)) ∧ (W.cell? ⟨w.heap.size + 3, 0, none⟩ = some (.int .i64 ch) ∧ W.cell? ⟨w.heap.size + 3, 1, none⟩ = some (.int .i64 cr) ∧ W.cell? ⟨w.heap.size + 3, 2, none⟩ = some (.string ci) ∧ W.cell? ⟨w.heap.size + 3, 3, none⟩ = some (.slice b cl.length cb)) := fun W h => ⟨⟨h.1.cell 0 rfl, h.1.cell 1 rfl⟩, ⟨h.2.1.cell 0 rfl, h.2.1.cell 1 rfl, h.2.1.cell 2 rfl, h.2.1.cell 3 rfl, h.2.1.cell 4 rfl, h.2.1.cell 5 rfl, h.2.1.cell 6 rfl⟩, ⟨h.2.2.1.cell 0 rfl, h.2.2.1.cell 1 rfl, h.2.2.1.cell 2 rfl, h.2.2.1.cell 3 rfl, h.2.2.1.cell 4 rfl, h.2.2.1.cell 5 rfl⟩, ⟨h.2.2.2.1.cell 0 rfl, h.2.2.2.1.cell 1 rfl, h.2.2.2.1.cell 2 rfl, h.2.2.2.1.cell 3 rfl⟩⟩
  obtain ⟨w0, hw0⟩ : ∃ W, (((w.alloc (Obj.cells #[Value.int .i64 tp, Value.int .i64 ts] 44)).alloc (Obj.cells #[Value.int .i64 yh, Value.int .i64 yt, Value.string ya, Value.string yv, Value.string yn, Value.string yd, Value.slice p m cap] 48)).alloc (Obj.cells #[Value.int .i64 h, Value.int .i64 t, Value.string aa, Value.string v, Value.string n, Value.string d] 45)).alloc (Obj.cells #[Value.int .i64 ch, Value.int .i64 cr, Value.string ci, Value.slice b cl.length cb] 51) = W := ⟨_, rfl⟩
  have HA0 : Hid (Arg w w0 ⟨tp, ts⟩ ⟨yh, yt, ya, yv, yn, yd⟩ (.slice p m cap) ⟨h, t, aa, v, n, d⟩ ⟨ch, cr, ci, cl⟩ b cb) := by rw [← hw0]; exact H0.out
  clear H0
  obtain ⟨⟨at0, at1⟩, ⟨ay0, ay1, ay2, ay3, ay4, ay5, ay6⟩, ⟨ax0, ax1, ax2, ax3, ax4, ax5⟩, ⟨ac0, ac1, ac2, ac3⟩⟩ := hflat _ HA0.out
  go_enter Tryz.func4, Tryz.ntmps4
  go_wp2_with fail
  try rw [hw0]
  refine (kz1 _).mono ?_
  rintro e w1 ⟨r1, rfl, hr1, hq1, bb⟩
  clear at0 at1 ay0 ay1 ay2 ay3 ay4 ay5 ay6 ax0 ax1 ax2 ax3 ax4 ax5 ac0 ac1 ac2 ac3 hw0
  have HA_1 : Hid (Arg w w1 ⟨tp, ts⟩ ⟨yh, yt, ya, yv, yn, yd⟩ (.slice p m cap) ⟨h, t, aa, v, n, d⟩ ⟨ch, cr, ci, cl⟩ b cb) := HA0.out.step bb
  clear HA0
  clear bb kz1
  by_cases hz1 : r1 < 0
  · go_wp2
    go_ret
    exact ⟨rfl, HA_1.out.2.2.2.2⟩
  obtain ⟨⟨at0, at1⟩, ⟨ay0, ay1, ay2, ay3, ay4, ay5, ay6⟩, ⟨ax0, ax1, ax2, ax3, ax4, ax5⟩, ⟨ac0, ac1, ac2, ac3⟩⟩ := hflat _ HA_1.out
  go_wp2_with fail
  refine (kz2 r1 _ (by omega) hr1).mono ?_
  rintro e w2 ⟨r2, rfl, hr2, hq2, bb⟩
  clear at0 at1 ay0 ay1 ay2 ay3 ay4 ay5 ay6 ax0 ax1 ax2 ax3 ax4 ax5 ac0 ac1 ac2 ac3 
  have HA_2 : Hid (Arg w w2 ⟨tp, ts⟩ ⟨yh, yt, ya, yv, yn, yd⟩ (.slice p m cap) ⟨h, t, aa, v, n, d⟩ ⟨ch, cr, ci, cl⟩ b cb) := HA_1.out.step bb
  clear HA_1
  clear bb kz2
  by_cases hz2 : r2 < 0
  · go_wp2
    go_ret
    exact ⟨rfl, HA_2.out.2.2.2.2⟩
  obtain ⟨⟨at0, at1⟩, ⟨ay0, ay1, ay2, ay3, ay4, ay5, ay6⟩, ⟨ax0, ax1, ax2, ax3, ax4, ax5⟩, ⟨ac0, ac1, ac2, ac3⟩⟩ := hflat _ HA_2.out
  go_wp2_with fail
  refine (kz3 r2 _ (by omega) hr2).mono ?_
  rintro e w2b ⟨rfl, rfl⟩
  clear kz3
  by_cases hz3 : r2 < (m' : Int)
  · rw [if_pos hz3]
    go_wp2
    go_ret
    exact ⟨rfl, HA_2.out.2.2.2.2⟩
  rw [if_neg hz3]
  have hm20 : m' ≤ 1048576 := by omega
  have hr3 : 0 ≤ r2 - (m' : Int) ∧ r2 - (m' : Int) ≤ 1048576 := by omega
  generalize r2 - (m' : Int) = r3 at *
  have hz3b : ¬ r3 < 0 := by omega
  go_wp2_with fail
  refine (kz4 r3 _ (HS.out.below HA_2.out.2.2.2.2) hr3.1 hr3.2).mono ?_
  rintro e wA ⟨r4, rfl, hr4, hq4, bb⟩
  clear at0 at1 ay0 ay1 ay2 ay3 ay4 ay5 ay6 ax0 ax1 ax2 ax3 ax4 ax5 ac0 ac1 ac2 ac3 
  have HA_3 : Hid (Arg w wA ⟨tp, ts⟩ ⟨yh, yt, ya, yv, yn, yd⟩ (.slice p m cap) ⟨h, t, aa, v, n, d⟩ ⟨ch, cr, ci, cl⟩ b cb) := HA_2.out.step bb
  clear HA_2
  clear bb kz4
  by_cases hz4 : r4 < 0
  · go_wp2
    go_ret
    exact ⟨rfl, HA_3.out.2.2.2.2⟩
  have h20 : m ≤ 1048576 := (hq1.out (by omega)).2
  have hsy := (hq1.out (by omega)).1
  have hsx := hq2.out (by omega)
  have hc20 : cl.length ≤ 1048576 := (hq4.out (by omega)).2.1
  have hg20 : mg ≤ 1048576 := HGL.out h20 hm20
  have kIc := kI hsy hsx
  clear hq1 hq2 hq4 hr1 hr2 hr3 hz1 hz2 hz3 hz3b hr4 kI HGL hsy hsx
  have hs0 : w.heap.size + 4 ≤ wA.heap.size := HA_3.out.2.2.2.1.lt
  go_upto_region 14 with fail
  go_cut [14, 15] (fun s s' wx => ∃ (G : Nat) (u : Option Addr) (cu : Nat), s = .pointer (some ⟨G, 0, none⟩) ∧ s' = .int .i64 N ∧ Hid (Lft wA wx G [.int .i64 gh, .int .i64 gt, .string ga, .string gv, .string gn, .string gd, .slice u mg cu] u gl))
  case first =>
    have HBd_wA : Hid (Below wA.heap.size wA wA.drew) := (Below.refl _ _).drew
    refine wp_region_held_drew (S := (fun W : World => (W.cell? ⟨w.heap.size, 0, none⟩ = some (.int .i64 tp) ∧ W.cell? ⟨w.heap.size, 1, none⟩ = some (.int .i64 ts)) ∧ (W.cell? ⟨w.heap.size + 1, 0, none⟩ = some (.int .i64 yh) ∧ W.cell? ⟨w.heap.size + 1, 1, none⟩ = some (.int .i64 yt) ∧ W.cell? ⟨w.heap.size + 1, 2, none⟩ = some (.string ya) ∧ W.cell? ⟨w.heap.size + 1, 3, none⟩ = some (.string yv) ∧ W.cell? ⟨w.heap.size + 1, 4, none⟩ = some (.string yn) ∧ W.cell? ⟨w.heap.size + 1, 5, none⟩ = some (.string yd) ∧ W.cell? ⟨w.heap.size + 1, 6, none⟩ = some (.slice p m cap)) ∧ (W.cell? ⟨w.heap.size + 2, 0, none⟩ = some (.int .i64 h) ∧ W.cell? ⟨w.heap.size + 2, 1, none⟩ = some (.int .i64 t) ∧ W.cell? ⟨w.heap.size + 2, 2, none⟩ = some (.string aa) ∧ W.cell? ⟨w.heap.size + 2, 3, none⟩ = some (.string v) ∧ W.cell? ⟨w.heap.size + 2, 4, none⟩ = some (.string n) ∧ W.cell? ⟨w.heap.size + 2, 5, none⟩ = some (.string d)) ∧ (W.cell? ⟨w.heap.size + 3, 0, none⟩ = some (.int .i64 ch) ∧ W.cell? ⟨w.heap.size + 3, 1, none⟩ = some (.int .i64 cr) ∧ W.cell? ⟨w.heap.size + 3, 2, none⟩ = some (.string ci) ∧ W.cell? ⟨w.heap.size + 3, 3, none⟩ = some (.slice b cl.length cb)))) (by kernel_rfl) ?_ (fun hHeld => ?_)
    · exact hflat _ (HA_3.out.step HBd_wA.out)
    generalize wA.drew = wd at *
    refine wpAnyH_take (i := 0) (oi := { dst := Option.some 47, op := Go.Op.load 44 (Go.Operand.tmp 6), type := 44, pos := "exact.go:4024", after := #[], guard := Option.none }) (v := ?_) rfl (by kernel_rfl) (by kernel_rfl) (by kernel_rfl) (fun _ _ _ h => h) (Or.inl ⟨by rfl, ?_⟩) hHeld ?_
    rotate_left
    · intro w hSw
      try dsimp only at hSw
      go_simp
      try (with_reducible rfl)
    simp only [Act.put, List.setIfInBounds_toArray, List.set_cons_zero, List.set_cons_succ]
    refine wpAnyH_take (i := 2) (oi := { dst := Option.some 49, op := Go.Op.load 48 (Go.Operand.tmp 7), type := 48, pos := "exact.go:4024", after := #[], guard := Option.none }) (v := ?_) rfl (by kernel_rfl) (by kernel_rfl) (by kernel_rfl) (fun _ _ _ h => h) (Or.inl ⟨by rfl, ?_⟩) hHeld ?_
    rotate_left
    · intro w hSw
      try dsimp only at hSw
      go_simp
      try (with_reducible rfl)
    simp only [Act.put, List.setIfInBounds_toArray, List.set_cons_zero, List.set_cons_succ]
    refine wpAnyH_take (i := 4) (oi := { dst := Option.some 51, op := Go.Op.load 45 (Go.Operand.tmp 8), type := 45, pos := "exact.go:4024", after := #[], guard := Option.none }) (v := ?_) rfl (by kernel_rfl) (by kernel_rfl) (by kernel_rfl) (fun _ _ _ h => h) (Or.inl ⟨by rfl, ?_⟩) hHeld ?_
    rotate_left
    · intro w hSw
      try dsimp only at hSw
      go_simp
      try (with_reducible rfl)
    simp only [Act.put, List.setIfInBounds_toArray, List.set_cons_zero, List.set_cons_succ]
    refine wpAnyH_take (i := 6) (oi := { dst := Option.some 53, op := Go.Op.move (Go.Operand.tmp 3), type := 46, pos := "exact.go:4024", after := #[], guard := Option.none }) (v := ?_) rfl (by kernel_rfl) (by kernel_rfl) (by kernel_rfl) (fun _ _ _ h => h) (Or.inl ⟨by rfl, ?_⟩) hHeld ?_
    rotate_left
    · intro w hSw
      try dsimp only at hSw
      go_simp
      try (with_reducible rfl)
    simp only [Act.put, List.setIfInBounds_toArray, List.set_cons_zero, List.set_cons_succ]
    refine wpAnyH_take (i := 8) (oi := { dst := Option.some 55, op := Go.Op.load 51 (Go.Operand.tmp 10), type := 51, pos := "exact.go:4024", after := #[], guard := Option.none }) (v := ?_) rfl (by kernel_rfl) (by kernel_rfl) (by kernel_rfl) (fun _ _ _ h => h) (Or.inl ⟨by rfl, ?_⟩) hHeld ?_
    rotate_left
    · intro w hSw
      try dsimp only at hSw
      go_simp
      try (with_reducible rfl)
    simp only [Act.put, List.setIfInBounds_toArray, List.set_cons_zero, List.set_cons_succ]
    refine wpAnyH_take (i := 10) (oi := { dst := Option.some 57, op := Go.Op.move (Go.Operand.tmp 5), type := 3, pos := "exact.go:4024", after := #[], guard := Option.none }) (v := ?_) rfl (by kernel_rfl) (by kernel_rfl) (by kernel_rfl) (fun _ _ _ h => h) (Or.inl ⟨by rfl, ?_⟩) hHeld ?_
    rotate_left
    · intro w hSw
      try dsimp only at hSw
      go_simp
      try (with_reducible rfl)
    simp only [Act.put, List.setIfInBounds_toArray, List.set_cons_zero, List.set_cons_succ]
    refine wpAnyH_ready (rs := [1, 15]) (by kernel_rfl) (by decide) ?_
    refine AllReadyH.cons (o := { dst := Option.some 48, op := Go.Op.call { callee := Go.Callee.value (Go.Operand.func 18), args := #[Go.Operand.tmp 47], argTypes := #[44] }, type := 25, pos := "exact.go:4024", after := #[{ on := 0, ground := Go.Ground.data }], guard := Option.none }) rfl (fun K hK => ?_) (AllReadyH.cons (o := { dst := Option.some 14, op := Go.Op.alloc 30, type := 0, pos := "exact.go:4024", after := #[], guard := Option.none }) rfl (fun K hK => ?_) AllReadyH.nil)
    · go_simp
      go_at_call 18
      refine (kT _).mono ?_
      rintro e v4 ⟨rfl, b4⟩
      have HB_5 : Hid (Below wA.heap.size wA v4) := HBd_wA.out.trans (b4.mono HBd_wA.out.size)
      clear b4
      refine hK.out _ _ (hflat _ (HA_3.out.step HB_5.out)) (fun hHeld => ?_)
      clear hK K
      try simp only [Act.put, List.setIfInBounds_toArray, List.set_cons_zero, List.set_cons_succ]
      refine wpAnyH_ready (rs := [3, 15]) (by kernel_rfl) (by decide) ?_
      refine AllReadyH.cons (o := { dst := Option.some 50, op := Go.Op.call { callee := Go.Callee.value (Go.Operand.func 19), args := #[Go.Operand.tmp 49], argTypes := #[48] }, type := 30, pos := "exact.go:4024", after := #[{ on := 2, ground := Go.Ground.data }, { on := 1, ground := Go.Ground.chain }], guard := Option.none }) rfl (fun K hK => ?_) (AllReadyH.cons (o := { dst := Option.some 14, op := Go.Op.alloc 30, type := 0, pos := "exact.go:4024", after := #[], guard := Option.none }) rfl (fun K hK => ?_) AllReadyH.nil)
      · go_simp
        go_at_call 19
        refine (kA _ (HL.out.below (HA_3.out.step HB_5.out).2.2.2.2) h20).mono ?_
        rintro e v6 ⟨u1_6, rfl, RU_6, b6⟩
        have HB_7 : Hid (Below wA.heap.size wA v6) := HB_5.out.trans (b6.mono HB_5.out.size)
        clear b6
        refine hK.out _ _ (hflat _ (HA_3.out.step HB_7.out)) (fun hHeld => ?_)
        clear hK K
        try simp only [Act.put, List.setIfInBounds_toArray, List.set_cons_zero, List.set_cons_succ]
        refine wpAnyH_ready (rs := [5, 15]) (by kernel_rfl) (by decide) ?_
        refine AllReadyH.cons (o := { dst := Option.some 52, op := Go.Op.call { callee := Go.Callee.value (Go.Operand.func 20), args := #[Go.Operand.tmp 51], argTypes := #[45] }, type := 27, pos := "exact.go:4024", after := #[{ on := 4, ground := Go.Ground.data }, { on := 3, ground := Go.Ground.chain }], guard := Option.none }) rfl (fun K hK => ?_) (AllReadyH.cons (o := { dst := Option.some 14, op := Go.Op.alloc 30, type := 0, pos := "exact.go:4024", after := #[], guard := Option.none }) rfl (fun K hK => ?_) AllReadyH.nil)
        · go_simp
          go_at_call 20
          refine (kX _).mono ?_
          rintro e v8 ⟨rfl, b8⟩
          have HB_9 : Hid (Below wA.heap.size wA v8) := HB_7.out.trans (b8.mono HB_7.out.size)
          have RU_9 : Hid (Cpv v8 v4.heap.size u1_6 l) := RU_6.out.below b8
          clear b8
          refine hK.out _ _ (hflat _ (HA_3.out.step HB_9.out)) (fun hHeld => ?_)
          clear hK K
          try simp only [Act.put, List.setIfInBounds_toArray, List.set_cons_zero, List.set_cons_succ]
          refine wpAnyH_ready (rs := [7, 15]) (by kernel_rfl) (by decide) ?_
          refine AllReadyH.cons (o := { dst := Option.some 54, op := Go.Op.call { callee := Go.Callee.value (Go.Operand.func 21), args := #[Go.Operand.tmp 53], argTypes := #[46] }, type := 28, pos := "exact.go:4024", after := #[{ on := 6, ground := Go.Ground.data }, { on := 5, ground := Go.Ground.chain }], guard := Option.none }) rfl (fun K hK => ?_) (AllReadyH.cons (o := { dst := Option.some 14, op := Go.Op.alloc 30, type := 0, pos := "exact.go:4024", after := #[], guard := Option.none }) rfl (fun K hK => ?_) AllReadyH.nil)
          · go_simp
            go_at_call 21
            refine (kN _ (HN.out.below (HA_3.out.step HB_9.out).2.2.2.2) hm20).mono ?_
            rintro e v10 ⟨un_10, rfl, RN_10, b10⟩
            have HB_11 : Hid (Below wA.heap.size wA v10) := HB_9.out.trans (b10.mono HB_9.out.size)
            have RU_11 : Hid (Cpv v10 v4.heap.size u1_6 l) := RU_9.out.below b10
            clear b10
            refine hK.out _ _ (hflat _ (HA_3.out.step HB_11.out)) (fun hHeld => ?_)
            clear hK K
            try simp only [Act.put, List.setIfInBounds_toArray, List.set_cons_zero, List.set_cons_succ]
            refine wpAnyH_ready (rs := [9, 15]) (by kernel_rfl) (by decide) ?_
            refine AllReadyH.cons (o := { dst := Option.some 56, op := Go.Op.call { callee := Go.Callee.value (Go.Operand.func 22), args := #[Go.Operand.tmp 55], argTypes := #[51] }, type := 33, pos := "exact.go:4024", after := #[{ on := 8, ground := Go.Ground.data }, { on := 7, ground := Go.Ground.chain }], guard := Option.none }) rfl (fun K hK => ?_) (AllReadyH.cons (o := { dst := Option.some 14, op := Go.Op.alloc 30, type := 0, pos := "exact.go:4024", after := #[], guard := Option.none }) rfl (fun K hK => ?_) AllReadyH.nil)
            · go_simp
              go_at_call 22
              refine (kC _ (HS.out.below (HA_3.out.step HB_11.out).2.2.2.2) hc20).mono ?_
              rintro e v12 ⟨uc_12, rfl, RC_12, b12⟩
              have HB_13 : Hid (Below wA.heap.size wA v12) := HB_11.out.trans (b12.mono HB_11.out.size)
              have RU_13 : Hid (Cpv v12 v4.heap.size u1_6 l) := RU_11.out.below b12
              have RN_13 : Hid (Cpv v12 v8.heap.size un_10 nx) := RN_10.out.below b12
              clear b12
              refine hK.out _ _ (hflat _ (HA_3.out.step HB_13.out)) (fun hHeld => ?_)
              clear hK K
              try simp only [Act.put, List.setIfInBounds_toArray, List.set_cons_zero, List.set_cons_succ]
              refine wpAnyH_ready (rs := [11, 15]) (by kernel_rfl) (by decide) ?_
              refine AllReadyH.cons (o := { dst := Option.some 58, op := Go.Op.call { callee := Go.Callee.value (Go.Operand.func 8), args := #[Go.Operand.tmp 48, Go.Operand.tmp 50, Go.Operand.tmp 52, Go.Operand.tmp 54, Go.Operand.tmp 56, Go.Operand.tmp 57], argTypes := #[25, 30, 27, 28, 33, 3] }, type := 36, pos := "exact.go:4024", after := #[{ on := 1, ground := Go.Ground.data }, { on := 3, ground := Go.Ground.data }, { on := 5, ground := Go.Ground.data }, { on := 7, ground := Go.Ground.data }, { on := 9, ground := Go.Ground.data }, { on := 10, ground := Go.Ground.data }, { on := 9, ground := Go.Ground.chain }], guard := Option.none }) rfl (fun K hK => ?_) (AllReadyH.cons (o := { dst := Option.some 14, op := Go.Op.alloc 30, type := 0, pos := "exact.go:4024", after := #[], guard := Option.none }) rfl (fun K hK => ?_) AllReadyH.nil)
              · go_simp
                go_at_call 8
                refine (kS u1_6 un_10 uc_12 h20 hm20 _ RU_13.out.o (HPA.out _ _ _ RU_13.out) RN_13.out.o (HPN.out _ _ _ RN_13.out) RC_12.out.o).mono ?_
                rintro e v14 ⟨u_14, cu_14, rfl, ROW_14, b14⟩
                have HB_15 : Hid (Below wA.heap.size wA v14) := HB_13.out.trans (b14.mono HB_13.out.size)
                have RU_15 : Hid (Cpv v14 v4.heap.size u1_6 l) := RU_13.out.below b14
                have RN_15 : Hid (Cpv v14 v8.heap.size un_10 nx) := RN_13.out.below b14
                have RC_15 : Hid (Cop v14 v10.heap.size ⟨ch, cr, ci, cl⟩ uc_12) := RC_12.out.below b14
                have hbs_14 : wA.heap.size ≤ v12.heap.size := HB_13.out.size
                clear b14
                refine hK.out _ _ (hflat _ (HA_3.out.step HB_15.out)) (fun hHeld => ?_)
                clear hK K
                try simp only [Act.put, List.setIfInBounds_toArray, List.set_cons_zero, List.set_cons_succ]
                refine wpAnyH_take (i := 12) (oi := { dst := Option.some 46, op := Go.Op.move (Go.Operand.tmp 58), type := 36, pos := "exact.go:4024", after := #[{ on := 11, ground := Go.Ground.data }], guard := Option.none }) (v := ?_) rfl (by kernel_rfl) (by kernel_rfl) (by kernel_rfl) (fun _ _ _ h => h) (Or.inl ⟨by rfl, ?_⟩) hHeld ?_
                rotate_left
                · intro w hSw
                  try dsimp only at hSw
                  go_simp
                  try (with_reducible rfl)
                simp only [Act.put, List.setIfInBounds_toArray, List.set_cons_zero, List.set_cons_succ]
                refine wpAnyH_take (i := 13) (oi := { dst := Option.some 59, op := Go.Op.extract (Go.Operand.tmp 46) 0, type := 30, pos := "exact.go:4024", after := #[{ on := 12, ground := Go.Ground.data }], guard := Option.none }) (v := ?_) rfl (by kernel_rfl) (by kernel_rfl) (by kernel_rfl) (fun _ _ _ h => h) (Or.inl ⟨by rfl, ?_⟩) hHeld ?_
                rotate_left
                · intro w hSw
                  try dsimp only at hSw
                  go_simp
                  try (with_reducible rfl)
                simp only [Act.put, List.setIfInBounds_toArray, List.set_cons_zero, List.set_cons_succ]
                refine wpAnyH_take (i := 14) (oi := { dst := Option.some 60, op := Go.Op.extract (Go.Operand.tmp 46) 1, type := 3, pos := "exact.go:4024", after := #[{ on := 12, ground := Go.Ground.data }, { on := 16, ground := Go.Ground.gcOnly Go.Departure.lateStores }], guard := Option.none }) (v := ?_) rfl (by kernel_rfl) (by kernel_rfl) (by kernel_rfl) (fun _ _ _ h => h) (Or.inl ⟨by rfl, ?_⟩) hHeld ?_
                rotate_left
                · intro w hSw
                  try dsimp only at hSw
                  go_simp
                  try (with_reducible rfl)
                simp only [Act.put, List.setIfInBounds_toArray, List.set_cons_zero, List.set_cons_succ]
                refine wpAnyH_ready (rs := [15]) (by kernel_rfl) (by decide) ?_
                refine AllReadyH.cons (o := { dst := Option.some 14, op := Go.Op.alloc 30, type := 0, pos := "exact.go:4024", after := #[], guard := Option.none }) rfl (fun K hK => ?_) AllReadyH.nil
                have bA_16 : Below v14.heap.size v14 (v14.alloc (.cells [.int .i64 0, .int .i64 0, .string ⟨#[]⟩, .string ⟨#[]⟩, .string ⟨#[]⟩, .string ⟨#[]⟩, .slice none 0 0].toArray 30)) := below_one _ _
                have RR_16 : Hid (Rr v14 v12.heap.size v14.heap.size v14.heap.size u_14 gl) := OwnV.rr ROW_14.out (Nat.le_refl _) (fun b h1 h2 => by omega)
                have HB_17 : Hid (Below wA.heap.size wA (v14.alloc (.cells [.int .i64 0, .int .i64 0, .string ⟨#[]⟩, .string ⟨#[]⟩, .string ⟨#[]⟩, .string ⟨#[]⟩, .slice none 0 0].toArray 30))) := HB_15.out.trans (bA_16.mono HB_15.out.size)
                have RU_17 : Hid (Cpv (v14.alloc (.cells [.int .i64 0, .int .i64 0, .string ⟨#[]⟩, .string ⟨#[]⟩, .string ⟨#[]⟩, .string ⟨#[]⟩, .slice none 0 0].toArray 30)) v4.heap.size u1_6 l) := RU_15.out.below bA_16
                have RN_17 : Hid (Cpv (v14.alloc (.cells [.int .i64 0, .int .i64 0, .string ⟨#[]⟩, .string ⟨#[]⟩, .string ⟨#[]⟩, .string ⟨#[]⟩, .slice none 0 0].toArray 30)) v8.heap.size un_10 nx) := RN_15.out.below bA_16
                have RC_17 : Hid (Cop (v14.alloc (.cells [.int .i64 0, .int .i64 0, .string ⟨#[]⟩, .string ⟨#[]⟩, .string ⟨#[]⟩, .string ⟨#[]⟩, .slice none 0 0].toArray 30)) v10.heap.size ⟨ch, cr, ci, cl⟩ uc_12) := RC_15.out.below bA_16
                have RR_17 : Hid (Rr (v14.alloc (.cells [.int .i64 0, .int .i64 0, .string ⟨#[]⟩, .string ⟨#[]⟩, .string ⟨#[]⟩, .string ⟨#[]⟩, .slice none 0 0].toArray 30)) v12.heap.size v14.heap.size v14.heap.size u_14 gl) := RR_16.out.below bA_16
                have K_16 : Hid (Blk (v14.alloc (.cells [.int .i64 0, .int .i64 0, .string ⟨#[]⟩, .string ⟨#[]⟩, .string ⟨#[]⟩, .string ⟨#[]⟩, .slice none 0 0].toArray 30)) v14.heap.size [.int .i64 0, .int .i64 0, .string ⟨#[]⟩, .string ⟨#[]⟩, .string ⟨#[]⟩, .string ⟨#[]⟩, .slice none 0 0] 30) := blk_new v14 _ _
                have hG_16 : wA.heap.size ≤ v14.heap.size := HB_15.out.size
                go_simp
                generalize v14.alloc (Obj.cells [.int .i64 0, .int .i64 0, .string ⟨#[]⟩, .string ⟨#[]⟩, .string ⟨#[]⟩, .string ⟨#[]⟩, .slice none 0 0].toArray 30) = wz_16 at *
                refine hK.out _ _ (hflat _ (HA_3.out.step HB_17.out)) (fun hHeld => ?_)
                clear hK K
                try simp only [Act.put, List.setIfInBounds_toArray, List.set_cons_zero, List.set_cons_succ]
                refine wpAnyH_ready (rs := [16]) (by kernel_rfl) (by decide) ?_
                refine AllReadyH.cons (o := { dst := Option.none, op := Go.Op.store 30 (Go.Operand.tmp 14) (Go.Operand.tmp 59), type := 0, pos := "exact.go:4024", after := #[{ on := 15, ground := Go.Ground.data }, { on := 13, ground := Go.Ground.data }, { on := 11, ground := Go.Ground.chain }, { on := 0, ground := Go.Ground.phase }, { on := 1, ground := Go.Ground.phase }, { on := 2, ground := Go.Ground.phase }, { on := 3, ground := Go.Ground.phase }, { on := 4, ground := Go.Ground.phase }, { on := 5, ground := Go.Ground.phase }, { on := 6, ground := Go.Ground.phase }, { on := 7, ground := Go.Ground.phase }, { on := 8, ground := Go.Ground.phase }, { on := 9, ground := Go.Ground.phase }, { on := 10, ground := Go.Ground.phase }, { on := 11, ground := Go.Ground.phase }, { on := 12, ground := Go.Ground.phase }, { on := 13, ground := Go.Ground.phase }, { on := 14, ground := Go.Ground.textOnly Go.Departure.lateStores }, { on := 15, ground := Go.Ground.phase }], guard := Option.none }) rfl (fun K hK => ?_) AllReadyH.nil
                have RS_18 := RR_17.out
                have RF_18 : Hid (Rr (((((((wz_16.setCell ⟨v14.heap.size, 0, none⟩ (.int .i64 gh)).setCell ⟨v14.heap.size, 1, none⟩ (.int .i64 gt)).setCell ⟨v14.heap.size, 2, none⟩ (.string ga)).setCell ⟨v14.heap.size, 3, none⟩ (.string gv)).setCell ⟨v14.heap.size, 4, none⟩ (.string gn)).setCell ⟨v14.heap.size, 5, none⟩ (.string gd)).setCell ⟨v14.heap.size, 6, none⟩ (.slice u_14 mg cu_14)) wA.heap.size v14.heap.size v14.heap.size u_14 gl) := (((((((RS_18.set 0 _).set 1 _).set 2 _).set 3 _).set 4 _).set 5 _).set 6 _).low (by omega)
                have KF_18 : Hid (Blk (((((((wz_16.setCell ⟨v14.heap.size, 0, none⟩ (.int .i64 gh)).setCell ⟨v14.heap.size, 1, none⟩ (.int .i64 gt)).setCell ⟨v14.heap.size, 2, none⟩ (.string ga)).setCell ⟨v14.heap.size, 3, none⟩ (.string gv)).setCell ⟨v14.heap.size, 4, none⟩ (.string gn)).setCell ⟨v14.heap.size, 5, none⟩ (.string gd)).setCell ⟨v14.heap.size, 6, none⟩ (.slice u_14 mg cu_14)) v14.heap.size [.int .i64 gh, .int .i64 gt, .string ga, .string gv, .string gn, .string gd, .slice u_14 mg cu_14] 30) := (((((((K_16.out.set 0 _).set 1 _).set 2 _).set 3 _).set 4 _).set 5 _).set 6 _)
                have HB_18 : Hid (Below wA.heap.size wA (((((((wz_16.setCell ⟨v14.heap.size, 0, none⟩ (.int .i64 gh)).setCell ⟨v14.heap.size, 1, none⟩ (.int .i64 gt)).setCell ⟨v14.heap.size, 2, none⟩ (.string ga)).setCell ⟨v14.heap.size, 3, none⟩ (.string gv)).setCell ⟨v14.heap.size, 4, none⟩ (.string gn)).setCell ⟨v14.heap.size, 5, none⟩ (.string gd)).setCell ⟨v14.heap.size, 6, none⟩ (.slice u_14 mg cu_14))) := (((((((HB_17.out.setCell (p := ⟨v14.heap.size, 0, none⟩) hG_16 _).setCell (p := ⟨v14.heap.size, 1, none⟩) hG_16 _).setCell (p := ⟨v14.heap.size, 2, none⟩) hG_16 _).setCell (p := ⟨v14.heap.size, 3, none⟩) hG_16 _).setCell (p := ⟨v14.heap.size, 4, none⟩) hG_16 _).setCell (p := ⟨v14.heap.size, 5, none⟩) hG_16 _).setCell (p := ⟨v14.heap.size, 6, none⟩) hG_16 _)
                have p_18_0 := K_16.out.cell 0 rfl
                have p_18_1 := K_16.out.cell 1 rfl
                have p_18_2 := K_16.out.cell 2 rfl
                have p_18_3 := K_16.out.cell 3 rfl
                have p_18_4 := K_16.out.cell 4 rfl
                have p_18_5 := K_16.out.cell 5 rfl
                have p_18_6 := K_16.out.cell 6 rfl
                have pf_18 := fun q => K_16.out.frozen q
                go_simp
                refine hK.out _ _ (hflat _ (HA_3.out.step HB_18.out)) (fun hHeld => ?_)
                clear hK K
                try simp only [Act.put, List.setIfInBounds_toArray, List.set_cons_zero, List.set_cons_succ]
                refine wpAnyH_take (i := 17) (oi := { dst := Option.some 15, op := Go.Op.assign (Go.Operand.tmp 60), type := 3, pos := "exact.go:4024", after := #[{ on := 14, ground := Go.Ground.data }, { on := 16, ground := Go.Ground.chain }, { on := 0, ground := Go.Ground.phase }, { on := 1, ground := Go.Ground.phase }, { on := 2, ground := Go.Ground.phase }, { on := 3, ground := Go.Ground.phase }, { on := 4, ground := Go.Ground.phase }, { on := 5, ground := Go.Ground.phase }, { on := 6, ground := Go.Ground.phase }, { on := 7, ground := Go.Ground.phase }, { on := 8, ground := Go.Ground.phase }, { on := 9, ground := Go.Ground.phase }, { on := 10, ground := Go.Ground.phase }, { on := 11, ground := Go.Ground.phase }, { on := 12, ground := Go.Ground.phase }, { on := 13, ground := Go.Ground.phase }, { on := 14, ground := Go.Ground.phase }, { on := 15, ground := Go.Ground.phase }, { on := 16, ground := Go.Ground.phase }], guard := Option.none }) (v := ?_) rfl (by kernel_rfl) (by kernel_rfl) (by kernel_rfl) (fun _ _ _ h => h) (Or.inl ⟨by rfl, ?_⟩) hHeld ?_
                rotate_left
                · intro w hSw
                  try dsimp only at hSw
                  go_simp
                  try (with_reducible rfl)
                simp only [Act.put, List.setIfInBounds_toArray, List.set_cons_zero, List.set_cons_succ]
                refine wpAnyH_done (by kernel_rfl) ?_ _
                go_wp2_with fail
                go_meet
                exact ⟨v14.heap.size, u_14, cu_14, rfl, rfl, ⟨⟨hG_16, KF_18.out⟩, RF_18.out.top, HB_18.out⟩⟩
              · have bA_19 : Below v12.heap.size v12 (v12.alloc (.cells [.int .i64 0, .int .i64 0, .string ⟨#[]⟩, .string ⟨#[]⟩, .string ⟨#[]⟩, .string ⟨#[]⟩, .slice none 0 0].toArray 30)) := below_one _ _
                have HB_20 : Hid (Below wA.heap.size wA (v12.alloc (.cells [.int .i64 0, .int .i64 0, .string ⟨#[]⟩, .string ⟨#[]⟩, .string ⟨#[]⟩, .string ⟨#[]⟩, .slice none 0 0].toArray 30))) := HB_13.out.trans (bA_19.mono HB_13.out.size)
                have RU_20 : Hid (Cpv (v12.alloc (.cells [.int .i64 0, .int .i64 0, .string ⟨#[]⟩, .string ⟨#[]⟩, .string ⟨#[]⟩, .string ⟨#[]⟩, .slice none 0 0].toArray 30)) v4.heap.size u1_6 l) := RU_13.out.below bA_19
                have RN_20 : Hid (Cpv (v12.alloc (.cells [.int .i64 0, .int .i64 0, .string ⟨#[]⟩, .string ⟨#[]⟩, .string ⟨#[]⟩, .string ⟨#[]⟩, .slice none 0 0].toArray 30)) v8.heap.size un_10 nx) := RN_13.out.below bA_19
                have RC_20 : Hid (Cop (v12.alloc (.cells [.int .i64 0, .int .i64 0, .string ⟨#[]⟩, .string ⟨#[]⟩, .string ⟨#[]⟩, .string ⟨#[]⟩, .slice none 0 0].toArray 30)) v10.heap.size ⟨ch, cr, ci, cl⟩ uc_12) := RC_12.out.below bA_19
                have K_19 : Hid (Blk (v12.alloc (.cells [.int .i64 0, .int .i64 0, .string ⟨#[]⟩, .string ⟨#[]⟩, .string ⟨#[]⟩, .string ⟨#[]⟩, .slice none 0 0].toArray 30)) v12.heap.size [.int .i64 0, .int .i64 0, .string ⟨#[]⟩, .string ⟨#[]⟩, .string ⟨#[]⟩, .string ⟨#[]⟩, .slice none 0 0] 30) := blk_new v12 _ _
                have hG_19 : wA.heap.size ≤ v12.heap.size := HB_13.out.size
                go_simp
                generalize v12.alloc (Obj.cells [.int .i64 0, .int .i64 0, .string ⟨#[]⟩, .string ⟨#[]⟩, .string ⟨#[]⟩, .string ⟨#[]⟩, .slice none 0 0].toArray 30) = wz_19 at *
                refine hK.out _ _ (hflat _ (HA_3.out.step HB_20.out)) (fun hHeld => ?_)
                clear hK K
                try simp only [Act.put, List.setIfInBounds_toArray, List.set_cons_zero, List.set_cons_succ]
                refine wpAnyH_ready (rs := [11]) (by kernel_rfl) (by decide) ?_
                refine AllReadyH.cons (o := { dst := Option.some 58, op := Go.Op.call { callee := Go.Callee.value (Go.Operand.func 8), args := #[Go.Operand.tmp 48, Go.Operand.tmp 50, Go.Operand.tmp 52, Go.Operand.tmp 54, Go.Operand.tmp 56, Go.Operand.tmp 57], argTypes := #[25, 30, 27, 28, 33, 3] }, type := 36, pos := "exact.go:4024", after := #[{ on := 1, ground := Go.Ground.data }, { on := 3, ground := Go.Ground.data }, { on := 5, ground := Go.Ground.data }, { on := 7, ground := Go.Ground.data }, { on := 9, ground := Go.Ground.data }, { on := 10, ground := Go.Ground.data }, { on := 9, ground := Go.Ground.chain }], guard := Option.none }) rfl (fun K hK => ?_) AllReadyH.nil
                go_simp
                go_at_call 8
                refine (kS u1_6 un_10 uc_12 h20 hm20 _ RU_20.out.o (HPA.out _ _ _ RU_20.out) RN_20.out.o (HPN.out _ _ _ RN_20.out) RC_20.out.o).mono ?_
                rintro e v21 ⟨u_21, cu_21, rfl, ROW_21, b21⟩
                have HB_22 : Hid (Below wA.heap.size wA v21) := HB_20.out.trans (b21.mono HB_20.out.size)
                have RU_22 : Hid (Cpv v21 v4.heap.size u1_6 l) := RU_20.out.below b21
                have RN_22 : Hid (Cpv v21 v8.heap.size un_10 nx) := RN_20.out.below b21
                have RC_22 : Hid (Cop v21 v10.heap.size ⟨ch, cr, ci, cl⟩ uc_12) := RC_20.out.below b21
                have K_22 : Hid (Blk v21 v12.heap.size [.int .i64 0, .int .i64 0, .string ⟨#[]⟩, .string ⟨#[]⟩, .string ⟨#[]⟩, .string ⟨#[]⟩, .slice none 0 0] 30) := K_19.out.below b21 K_19.out.lt
                have hbs_21 : wA.heap.size ≤ wz_19.heap.size := HB_20.out.size
                clear b21
                have hGb_21 : v12.heap.size < wz_19.heap.size := K_19.out.lt
                refine hK.out _ _ (hflat _ (HA_3.out.step HB_22.out)) (fun hHeld => ?_)
                clear hK K
                try simp only [Act.put, List.setIfInBounds_toArray, List.set_cons_zero, List.set_cons_succ]
                refine wpAnyH_take (i := 12) (oi := { dst := Option.some 46, op := Go.Op.move (Go.Operand.tmp 58), type := 36, pos := "exact.go:4024", after := #[{ on := 11, ground := Go.Ground.data }], guard := Option.none }) (v := ?_) rfl (by kernel_rfl) (by kernel_rfl) (by kernel_rfl) (fun _ _ _ h => h) (Or.inl ⟨by rfl, ?_⟩) hHeld ?_
                rotate_left
                · intro w hSw
                  try dsimp only at hSw
                  go_simp
                  try (with_reducible rfl)
                simp only [Act.put, List.setIfInBounds_toArray, List.set_cons_zero, List.set_cons_succ]
                refine wpAnyH_take (i := 13) (oi := { dst := Option.some 59, op := Go.Op.extract (Go.Operand.tmp 46) 0, type := 30, pos := "exact.go:4024", after := #[{ on := 12, ground := Go.Ground.data }], guard := Option.none }) (v := ?_) rfl (by kernel_rfl) (by kernel_rfl) (by kernel_rfl) (fun _ _ _ h => h) (Or.inl ⟨by rfl, ?_⟩) hHeld ?_
                rotate_left
                · intro w hSw
                  try dsimp only at hSw
                  go_simp
                  try (with_reducible rfl)
                simp only [Act.put, List.setIfInBounds_toArray, List.set_cons_zero, List.set_cons_succ]
                refine wpAnyH_take (i := 14) (oi := { dst := Option.some 60, op := Go.Op.extract (Go.Operand.tmp 46) 1, type := 3, pos := "exact.go:4024", after := #[{ on := 12, ground := Go.Ground.data }, { on := 16, ground := Go.Ground.gcOnly Go.Departure.lateStores }], guard := Option.none }) (v := ?_) rfl (by kernel_rfl) (by kernel_rfl) (by kernel_rfl) (fun _ _ _ h => h) (Or.inl ⟨by rfl, ?_⟩) hHeld ?_
                rotate_left
                · intro w hSw
                  try dsimp only at hSw
                  go_simp
                  try (with_reducible rfl)
                simp only [Act.put, List.setIfInBounds_toArray, List.set_cons_zero, List.set_cons_succ]
                refine wpAnyH_ready (rs := [16]) (by kernel_rfl) (by decide) ?_
                refine AllReadyH.cons (o := { dst := Option.none, op := Go.Op.store 30 (Go.Operand.tmp 14) (Go.Operand.tmp 59), type := 0, pos := "exact.go:4024", after := #[{ on := 15, ground := Go.Ground.data }, { on := 13, ground := Go.Ground.data }, { on := 11, ground := Go.Ground.chain }, { on := 0, ground := Go.Ground.phase }, { on := 1, ground := Go.Ground.phase }, { on := 2, ground := Go.Ground.phase }, { on := 3, ground := Go.Ground.phase }, { on := 4, ground := Go.Ground.phase }, { on := 5, ground := Go.Ground.phase }, { on := 6, ground := Go.Ground.phase }, { on := 7, ground := Go.Ground.phase }, { on := 8, ground := Go.Ground.phase }, { on := 9, ground := Go.Ground.phase }, { on := 10, ground := Go.Ground.phase }, { on := 11, ground := Go.Ground.phase }, { on := 12, ground := Go.Ground.phase }, { on := 13, ground := Go.Ground.phase }, { on := 14, ground := Go.Ground.textOnly Go.Departure.lateStores }, { on := 15, ground := Go.Ground.phase }], guard := Option.none }) rfl (fun K hK => ?_) AllReadyH.nil
                have RS_23 : Rr v21 wz_19.heap.size v21.heap.size v12.heap.size u_21 gl := OwnV.rr ROW_21.out (Nat.le_refl _) (fun b h1 h2 => by omega)
                have RF_23 : Hid (Rr (((((((v21.setCell ⟨v12.heap.size, 0, none⟩ (.int .i64 gh)).setCell ⟨v12.heap.size, 1, none⟩ (.int .i64 gt)).setCell ⟨v12.heap.size, 2, none⟩ (.string ga)).setCell ⟨v12.heap.size, 3, none⟩ (.string gv)).setCell ⟨v12.heap.size, 4, none⟩ (.string gn)).setCell ⟨v12.heap.size, 5, none⟩ (.string gd)).setCell ⟨v12.heap.size, 6, none⟩ (.slice u_21 mg cu_21)) wA.heap.size v21.heap.size v12.heap.size u_21 gl) := (((((((RS_23.set 0 _).set 1 _).set 2 _).set 3 _).set 4 _).set 5 _).set 6 _).low (by omega)
                have KF_23 : Hid (Blk (((((((v21.setCell ⟨v12.heap.size, 0, none⟩ (.int .i64 gh)).setCell ⟨v12.heap.size, 1, none⟩ (.int .i64 gt)).setCell ⟨v12.heap.size, 2, none⟩ (.string ga)).setCell ⟨v12.heap.size, 3, none⟩ (.string gv)).setCell ⟨v12.heap.size, 4, none⟩ (.string gn)).setCell ⟨v12.heap.size, 5, none⟩ (.string gd)).setCell ⟨v12.heap.size, 6, none⟩ (.slice u_21 mg cu_21)) v12.heap.size [.int .i64 gh, .int .i64 gt, .string ga, .string gv, .string gn, .string gd, .slice u_21 mg cu_21] 30) := (((((((K_22.out.set 0 _).set 1 _).set 2 _).set 3 _).set 4 _).set 5 _).set 6 _)
                have HB_23 : Hid (Below wA.heap.size wA (((((((v21.setCell ⟨v12.heap.size, 0, none⟩ (.int .i64 gh)).setCell ⟨v12.heap.size, 1, none⟩ (.int .i64 gt)).setCell ⟨v12.heap.size, 2, none⟩ (.string ga)).setCell ⟨v12.heap.size, 3, none⟩ (.string gv)).setCell ⟨v12.heap.size, 4, none⟩ (.string gn)).setCell ⟨v12.heap.size, 5, none⟩ (.string gd)).setCell ⟨v12.heap.size, 6, none⟩ (.slice u_21 mg cu_21))) := (((((((HB_22.out.setCell (p := ⟨v12.heap.size, 0, none⟩) hG_19 _).setCell (p := ⟨v12.heap.size, 1, none⟩) hG_19 _).setCell (p := ⟨v12.heap.size, 2, none⟩) hG_19 _).setCell (p := ⟨v12.heap.size, 3, none⟩) hG_19 _).setCell (p := ⟨v12.heap.size, 4, none⟩) hG_19 _).setCell (p := ⟨v12.heap.size, 5, none⟩) hG_19 _).setCell (p := ⟨v12.heap.size, 6, none⟩) hG_19 _)
                have p_23_0 := K_22.out.cell 0 rfl
                have p_23_1 := K_22.out.cell 1 rfl
                have p_23_2 := K_22.out.cell 2 rfl
                have p_23_3 := K_22.out.cell 3 rfl
                have p_23_4 := K_22.out.cell 4 rfl
                have p_23_5 := K_22.out.cell 5 rfl
                have p_23_6 := K_22.out.cell 6 rfl
                have pf_23 := fun q => K_22.out.frozen q
                go_simp
                refine hK.out _ _ (hflat _ (HA_3.out.step HB_23.out)) (fun hHeld => ?_)
                clear hK K
                try simp only [Act.put, List.setIfInBounds_toArray, List.set_cons_zero, List.set_cons_succ]
                refine wpAnyH_take (i := 17) (oi := { dst := Option.some 15, op := Go.Op.assign (Go.Operand.tmp 60), type := 3, pos := "exact.go:4024", after := #[{ on := 14, ground := Go.Ground.data }, { on := 16, ground := Go.Ground.chain }, { on := 0, ground := Go.Ground.phase }, { on := 1, ground := Go.Ground.phase }, { on := 2, ground := Go.Ground.phase }, { on := 3, ground := Go.Ground.phase }, { on := 4, ground := Go.Ground.phase }, { on := 5, ground := Go.Ground.phase }, { on := 6, ground := Go.Ground.phase }, { on := 7, ground := Go.Ground.phase }, { on := 8, ground := Go.Ground.phase }, { on := 9, ground := Go.Ground.phase }, { on := 10, ground := Go.Ground.phase }, { on := 11, ground := Go.Ground.phase }, { on := 12, ground := Go.Ground.phase }, { on := 13, ground := Go.Ground.phase }, { on := 14, ground := Go.Ground.phase }, { on := 15, ground := Go.Ground.phase }, { on := 16, ground := Go.Ground.phase }], guard := Option.none }) (v := ?_) rfl (by kernel_rfl) (by kernel_rfl) (by kernel_rfl) (fun _ _ _ h => h) (Or.inl ⟨by rfl, ?_⟩) hHeld ?_
                rotate_left
                · intro w hSw
                  try dsimp only at hSw
                  go_simp
                  try (with_reducible rfl)
                simp only [Act.put, List.setIfInBounds_toArray, List.set_cons_zero, List.set_cons_succ]
                refine wpAnyH_done (by kernel_rfl) ?_ _
                go_wp2_with fail
                go_meet
                exact ⟨v12.heap.size, u_21, cu_21, rfl, rfl, ⟨⟨hG_19, KF_23.out⟩, RF_23.out.top, HB_23.out⟩⟩
            · have bA_24 : Below v10.heap.size v10 (v10.alloc (.cells [.int .i64 0, .int .i64 0, .string ⟨#[]⟩, .string ⟨#[]⟩, .string ⟨#[]⟩, .string ⟨#[]⟩, .slice none 0 0].toArray 30)) := below_one _ _
              have HB_25 : Hid (Below wA.heap.size wA (v10.alloc (.cells [.int .i64 0, .int .i64 0, .string ⟨#[]⟩, .string ⟨#[]⟩, .string ⟨#[]⟩, .string ⟨#[]⟩, .slice none 0 0].toArray 30))) := HB_11.out.trans (bA_24.mono HB_11.out.size)
              have RU_25 : Hid (Cpv (v10.alloc (.cells [.int .i64 0, .int .i64 0, .string ⟨#[]⟩, .string ⟨#[]⟩, .string ⟨#[]⟩, .string ⟨#[]⟩, .slice none 0 0].toArray 30)) v4.heap.size u1_6 l) := RU_11.out.below bA_24
              have RN_25 : Hid (Cpv (v10.alloc (.cells [.int .i64 0, .int .i64 0, .string ⟨#[]⟩, .string ⟨#[]⟩, .string ⟨#[]⟩, .string ⟨#[]⟩, .slice none 0 0].toArray 30)) v8.heap.size un_10 nx) := RN_10.out.below bA_24
              have K_24 : Hid (Blk (v10.alloc (.cells [.int .i64 0, .int .i64 0, .string ⟨#[]⟩, .string ⟨#[]⟩, .string ⟨#[]⟩, .string ⟨#[]⟩, .slice none 0 0].toArray 30)) v10.heap.size [.int .i64 0, .int .i64 0, .string ⟨#[]⟩, .string ⟨#[]⟩, .string ⟨#[]⟩, .string ⟨#[]⟩, .slice none 0 0] 30) := blk_new v10 _ _
              have hG_24 : wA.heap.size ≤ v10.heap.size := HB_11.out.size
              go_simp
              generalize v10.alloc (Obj.cells [.int .i64 0, .int .i64 0, .string ⟨#[]⟩, .string ⟨#[]⟩, .string ⟨#[]⟩, .string ⟨#[]⟩, .slice none 0 0].toArray 30) = wz_24 at *
              refine hK.out _ _ (hflat _ (HA_3.out.step HB_25.out)) (fun hHeld => ?_)
              clear hK K
              try simp only [Act.put, List.setIfInBounds_toArray, List.set_cons_zero, List.set_cons_succ]
              refine wpAnyH_ready (rs := [9]) (by kernel_rfl) (by decide) ?_
              refine AllReadyH.cons (o := { dst := Option.some 56, op := Go.Op.call { callee := Go.Callee.value (Go.Operand.func 22), args := #[Go.Operand.tmp 55], argTypes := #[51] }, type := 33, pos := "exact.go:4024", after := #[{ on := 8, ground := Go.Ground.data }, { on := 7, ground := Go.Ground.chain }], guard := Option.none }) rfl (fun K hK => ?_) AllReadyH.nil
              go_simp
              go_at_call 22
              refine (kC _ (HS.out.below (HA_3.out.step HB_25.out).2.2.2.2) hc20).mono ?_
              rintro e v26 ⟨uc_26, rfl, RC_26, b26⟩
              have HB_27 : Hid (Below wA.heap.size wA v26) := HB_25.out.trans (b26.mono HB_25.out.size)
              have RU_27 : Hid (Cpv v26 v4.heap.size u1_6 l) := RU_25.out.below b26
              have RN_27 : Hid (Cpv v26 v8.heap.size un_10 nx) := RN_25.out.below b26
              have K_27 : Hid (Blk v26 v10.heap.size [.int .i64 0, .int .i64 0, .string ⟨#[]⟩, .string ⟨#[]⟩, .string ⟨#[]⟩, .string ⟨#[]⟩, .slice none 0 0] 30) := K_24.out.below b26 K_24.out.lt
              clear b26
              refine hK.out _ _ (hflat _ (HA_3.out.step HB_27.out)) (fun hHeld => ?_)
              clear hK K
              try simp only [Act.put, List.setIfInBounds_toArray, List.set_cons_zero, List.set_cons_succ]
              refine wpAnyH_ready (rs := [11]) (by kernel_rfl) (by decide) ?_
              refine AllReadyH.cons (o := { dst := Option.some 58, op := Go.Op.call { callee := Go.Callee.value (Go.Operand.func 8), args := #[Go.Operand.tmp 48, Go.Operand.tmp 50, Go.Operand.tmp 52, Go.Operand.tmp 54, Go.Operand.tmp 56, Go.Operand.tmp 57], argTypes := #[25, 30, 27, 28, 33, 3] }, type := 36, pos := "exact.go:4024", after := #[{ on := 1, ground := Go.Ground.data }, { on := 3, ground := Go.Ground.data }, { on := 5, ground := Go.Ground.data }, { on := 7, ground := Go.Ground.data }, { on := 9, ground := Go.Ground.data }, { on := 10, ground := Go.Ground.data }, { on := 9, ground := Go.Ground.chain }], guard := Option.none }) rfl (fun K hK => ?_) AllReadyH.nil
              go_simp
              go_at_call 8
              refine (kS u1_6 un_10 uc_26 h20 hm20 _ RU_27.out.o (HPA.out _ _ _ RU_27.out) RN_27.out.o (HPN.out _ _ _ RN_27.out) RC_26.out.o).mono ?_
              rintro e v28 ⟨u_28, cu_28, rfl, ROW_28, b28⟩
              have HB_29 : Hid (Below wA.heap.size wA v28) := HB_27.out.trans (b28.mono HB_27.out.size)
              have RU_29 : Hid (Cpv v28 v4.heap.size u1_6 l) := RU_27.out.below b28
              have RN_29 : Hid (Cpv v28 v8.heap.size un_10 nx) := RN_27.out.below b28
              have K_29 : Hid (Blk v28 v10.heap.size [.int .i64 0, .int .i64 0, .string ⟨#[]⟩, .string ⟨#[]⟩, .string ⟨#[]⟩, .string ⟨#[]⟩, .slice none 0 0] 30) := K_27.out.below b28 K_27.out.lt
              have RC_29 : Hid (Cop v28 wz_24.heap.size ⟨ch, cr, ci, cl⟩ uc_26) := RC_26.out.below b28
              have hbs_28 : wA.heap.size ≤ v26.heap.size := HB_27.out.size
              clear b28
              have hGb_28 : v10.heap.size < v26.heap.size := K_27.out.lt
              refine hK.out _ _ (hflat _ (HA_3.out.step HB_29.out)) (fun hHeld => ?_)
              clear hK K
              try simp only [Act.put, List.setIfInBounds_toArray, List.set_cons_zero, List.set_cons_succ]
              refine wpAnyH_take (i := 12) (oi := { dst := Option.some 46, op := Go.Op.move (Go.Operand.tmp 58), type := 36, pos := "exact.go:4024", after := #[{ on := 11, ground := Go.Ground.data }], guard := Option.none }) (v := ?_) rfl (by kernel_rfl) (by kernel_rfl) (by kernel_rfl) (fun _ _ _ h => h) (Or.inl ⟨by rfl, ?_⟩) hHeld ?_
              rotate_left
              · intro w hSw
                try dsimp only at hSw
                go_simp
                try (with_reducible rfl)
              simp only [Act.put, List.setIfInBounds_toArray, List.set_cons_zero, List.set_cons_succ]
              refine wpAnyH_take (i := 13) (oi := { dst := Option.some 59, op := Go.Op.extract (Go.Operand.tmp 46) 0, type := 30, pos := "exact.go:4024", after := #[{ on := 12, ground := Go.Ground.data }], guard := Option.none }) (v := ?_) rfl (by kernel_rfl) (by kernel_rfl) (by kernel_rfl) (fun _ _ _ h => h) (Or.inl ⟨by rfl, ?_⟩) hHeld ?_
              rotate_left
              · intro w hSw
                try dsimp only at hSw
                go_simp
                try (with_reducible rfl)
              simp only [Act.put, List.setIfInBounds_toArray, List.set_cons_zero, List.set_cons_succ]
              refine wpAnyH_take (i := 14) (oi := { dst := Option.some 60, op := Go.Op.extract (Go.Operand.tmp 46) 1, type := 3, pos := "exact.go:4024", after := #[{ on := 12, ground := Go.Ground.data }, { on := 16, ground := Go.Ground.gcOnly Go.Departure.lateStores }], guard := Option.none }) (v := ?_) rfl (by kernel_rfl) (by kernel_rfl) (by kernel_rfl) (fun _ _ _ h => h) (Or.inl ⟨by rfl, ?_⟩) hHeld ?_
              rotate_left
              · intro w hSw
                try dsimp only at hSw
                go_simp
                try (with_reducible rfl)
              simp only [Act.put, List.setIfInBounds_toArray, List.set_cons_zero, List.set_cons_succ]
              refine wpAnyH_ready (rs := [16]) (by kernel_rfl) (by decide) ?_
              refine AllReadyH.cons (o := { dst := Option.none, op := Go.Op.store 30 (Go.Operand.tmp 14) (Go.Operand.tmp 59), type := 0, pos := "exact.go:4024", after := #[{ on := 15, ground := Go.Ground.data }, { on := 13, ground := Go.Ground.data }, { on := 11, ground := Go.Ground.chain }, { on := 0, ground := Go.Ground.phase }, { on := 1, ground := Go.Ground.phase }, { on := 2, ground := Go.Ground.phase }, { on := 3, ground := Go.Ground.phase }, { on := 4, ground := Go.Ground.phase }, { on := 5, ground := Go.Ground.phase }, { on := 6, ground := Go.Ground.phase }, { on := 7, ground := Go.Ground.phase }, { on := 8, ground := Go.Ground.phase }, { on := 9, ground := Go.Ground.phase }, { on := 10, ground := Go.Ground.phase }, { on := 11, ground := Go.Ground.phase }, { on := 12, ground := Go.Ground.phase }, { on := 13, ground := Go.Ground.phase }, { on := 14, ground := Go.Ground.textOnly Go.Departure.lateStores }, { on := 15, ground := Go.Ground.phase }], guard := Option.none }) rfl (fun K hK => ?_) AllReadyH.nil
              have RS_30 : Rr v28 v26.heap.size v28.heap.size v10.heap.size u_28 gl := OwnV.rr ROW_28.out (Nat.le_refl _) (fun b h1 h2 => by omega)
              have RF_30 : Hid (Rr (((((((v28.setCell ⟨v10.heap.size, 0, none⟩ (.int .i64 gh)).setCell ⟨v10.heap.size, 1, none⟩ (.int .i64 gt)).setCell ⟨v10.heap.size, 2, none⟩ (.string ga)).setCell ⟨v10.heap.size, 3, none⟩ (.string gv)).setCell ⟨v10.heap.size, 4, none⟩ (.string gn)).setCell ⟨v10.heap.size, 5, none⟩ (.string gd)).setCell ⟨v10.heap.size, 6, none⟩ (.slice u_28 mg cu_28)) wA.heap.size v28.heap.size v10.heap.size u_28 gl) := (((((((RS_30.set 0 _).set 1 _).set 2 _).set 3 _).set 4 _).set 5 _).set 6 _).low (by omega)
              have KF_30 : Hid (Blk (((((((v28.setCell ⟨v10.heap.size, 0, none⟩ (.int .i64 gh)).setCell ⟨v10.heap.size, 1, none⟩ (.int .i64 gt)).setCell ⟨v10.heap.size, 2, none⟩ (.string ga)).setCell ⟨v10.heap.size, 3, none⟩ (.string gv)).setCell ⟨v10.heap.size, 4, none⟩ (.string gn)).setCell ⟨v10.heap.size, 5, none⟩ (.string gd)).setCell ⟨v10.heap.size, 6, none⟩ (.slice u_28 mg cu_28)) v10.heap.size [.int .i64 gh, .int .i64 gt, .string ga, .string gv, .string gn, .string gd, .slice u_28 mg cu_28] 30) := (((((((K_29.out.set 0 _).set 1 _).set 2 _).set 3 _).set 4 _).set 5 _).set 6 _)
              have HB_30 : Hid (Below wA.heap.size wA (((((((v28.setCell ⟨v10.heap.size, 0, none⟩ (.int .i64 gh)).setCell ⟨v10.heap.size, 1, none⟩ (.int .i64 gt)).setCell ⟨v10.heap.size, 2, none⟩ (.string ga)).setCell ⟨v10.heap.size, 3, none⟩ (.string gv)).setCell ⟨v10.heap.size, 4, none⟩ (.string gn)).setCell ⟨v10.heap.size, 5, none⟩ (.string gd)).setCell ⟨v10.heap.size, 6, none⟩ (.slice u_28 mg cu_28))) := (((((((HB_29.out.setCell (p := ⟨v10.heap.size, 0, none⟩) hG_24 _).setCell (p := ⟨v10.heap.size, 1, none⟩) hG_24 _).setCell (p := ⟨v10.heap.size, 2, none⟩) hG_24 _).setCell (p := ⟨v10.heap.size, 3, none⟩) hG_24 _).setCell (p := ⟨v10.heap.size, 4, none⟩) hG_24 _).setCell (p := ⟨v10.heap.size, 5, none⟩) hG_24 _).setCell (p := ⟨v10.heap.size, 6, none⟩) hG_24 _)
              have p_30_0 := K_29.out.cell 0 rfl
              have p_30_1 := K_29.out.cell 1 rfl
              have p_30_2 := K_29.out.cell 2 rfl
              have p_30_3 := K_29.out.cell 3 rfl
              have p_30_4 := K_29.out.cell 4 rfl
              have p_30_5 := K_29.out.cell 5 rfl
              have p_30_6 := K_29.out.cell 6 rfl
              have pf_30 := fun q => K_29.out.frozen q
              go_simp
              refine hK.out _ _ (hflat _ (HA_3.out.step HB_30.out)) (fun hHeld => ?_)
              clear hK K
              try simp only [Act.put, List.setIfInBounds_toArray, List.set_cons_zero, List.set_cons_succ]
              refine wpAnyH_take (i := 17) (oi := { dst := Option.some 15, op := Go.Op.assign (Go.Operand.tmp 60), type := 3, pos := "exact.go:4024", after := #[{ on := 14, ground := Go.Ground.data }, { on := 16, ground := Go.Ground.chain }, { on := 0, ground := Go.Ground.phase }, { on := 1, ground := Go.Ground.phase }, { on := 2, ground := Go.Ground.phase }, { on := 3, ground := Go.Ground.phase }, { on := 4, ground := Go.Ground.phase }, { on := 5, ground := Go.Ground.phase }, { on := 6, ground := Go.Ground.phase }, { on := 7, ground := Go.Ground.phase }, { on := 8, ground := Go.Ground.phase }, { on := 9, ground := Go.Ground.phase }, { on := 10, ground := Go.Ground.phase }, { on := 11, ground := Go.Ground.phase }, { on := 12, ground := Go.Ground.phase }, { on := 13, ground := Go.Ground.phase }, { on := 14, ground := Go.Ground.phase }, { on := 15, ground := Go.Ground.phase }, { on := 16, ground := Go.Ground.phase }], guard := Option.none }) (v := ?_) rfl (by kernel_rfl) (by kernel_rfl) (by kernel_rfl) (fun _ _ _ h => h) (Or.inl ⟨by rfl, ?_⟩) hHeld ?_
              rotate_left
              · intro w hSw
                try dsimp only at hSw
                go_simp
                try (with_reducible rfl)
              simp only [Act.put, List.setIfInBounds_toArray, List.set_cons_zero, List.set_cons_succ]
              refine wpAnyH_done (by kernel_rfl) ?_ _
              go_wp2_with fail
              go_meet
              exact ⟨v10.heap.size, u_28, cu_28, rfl, rfl, ⟨⟨hG_24, KF_30.out⟩, RF_30.out.top, HB_30.out⟩⟩
          · have bA_31 : Below v8.heap.size v8 (v8.alloc (.cells [.int .i64 0, .int .i64 0, .string ⟨#[]⟩, .string ⟨#[]⟩, .string ⟨#[]⟩, .string ⟨#[]⟩, .slice none 0 0].toArray 30)) := below_one _ _
            have HB_32 : Hid (Below wA.heap.size wA (v8.alloc (.cells [.int .i64 0, .int .i64 0, .string ⟨#[]⟩, .string ⟨#[]⟩, .string ⟨#[]⟩, .string ⟨#[]⟩, .slice none 0 0].toArray 30))) := HB_9.out.trans (bA_31.mono HB_9.out.size)
            have RU_32 : Hid (Cpv (v8.alloc (.cells [.int .i64 0, .int .i64 0, .string ⟨#[]⟩, .string ⟨#[]⟩, .string ⟨#[]⟩, .string ⟨#[]⟩, .slice none 0 0].toArray 30)) v4.heap.size u1_6 l) := RU_9.out.below bA_31
            have K_31 : Hid (Blk (v8.alloc (.cells [.int .i64 0, .int .i64 0, .string ⟨#[]⟩, .string ⟨#[]⟩, .string ⟨#[]⟩, .string ⟨#[]⟩, .slice none 0 0].toArray 30)) v8.heap.size [.int .i64 0, .int .i64 0, .string ⟨#[]⟩, .string ⟨#[]⟩, .string ⟨#[]⟩, .string ⟨#[]⟩, .slice none 0 0] 30) := blk_new v8 _ _
            have hG_31 : wA.heap.size ≤ v8.heap.size := HB_9.out.size
            go_simp
            generalize v8.alloc (Obj.cells [.int .i64 0, .int .i64 0, .string ⟨#[]⟩, .string ⟨#[]⟩, .string ⟨#[]⟩, .string ⟨#[]⟩, .slice none 0 0].toArray 30) = wz_31 at *
            refine hK.out _ _ (hflat _ (HA_3.out.step HB_32.out)) (fun hHeld => ?_)
            clear hK K
            try simp only [Act.put, List.setIfInBounds_toArray, List.set_cons_zero, List.set_cons_succ]
            refine wpAnyH_ready (rs := [7]) (by kernel_rfl) (by decide) ?_
            refine AllReadyH.cons (o := { dst := Option.some 54, op := Go.Op.call { callee := Go.Callee.value (Go.Operand.func 21), args := #[Go.Operand.tmp 53], argTypes := #[46] }, type := 28, pos := "exact.go:4024", after := #[{ on := 6, ground := Go.Ground.data }, { on := 5, ground := Go.Ground.chain }], guard := Option.none }) rfl (fun K hK => ?_) AllReadyH.nil
            go_simp
            go_at_call 21
            refine (kN _ (HN.out.below (HA_3.out.step HB_32.out).2.2.2.2) hm20).mono ?_
            rintro e v33 ⟨un_33, rfl, RN_33, b33⟩
            have HB_34 : Hid (Below wA.heap.size wA v33) := HB_32.out.trans (b33.mono HB_32.out.size)
            have RU_34 : Hid (Cpv v33 v4.heap.size u1_6 l) := RU_32.out.below b33
            have K_34 : Hid (Blk v33 v8.heap.size [.int .i64 0, .int .i64 0, .string ⟨#[]⟩, .string ⟨#[]⟩, .string ⟨#[]⟩, .string ⟨#[]⟩, .slice none 0 0] 30) := K_31.out.below b33 K_31.out.lt
            clear b33
            refine hK.out _ _ (hflat _ (HA_3.out.step HB_34.out)) (fun hHeld => ?_)
            clear hK K
            try simp only [Act.put, List.setIfInBounds_toArray, List.set_cons_zero, List.set_cons_succ]
            refine wpAnyH_ready (rs := [9]) (by kernel_rfl) (by decide) ?_
            refine AllReadyH.cons (o := { dst := Option.some 56, op := Go.Op.call { callee := Go.Callee.value (Go.Operand.func 22), args := #[Go.Operand.tmp 55], argTypes := #[51] }, type := 33, pos := "exact.go:4024", after := #[{ on := 8, ground := Go.Ground.data }, { on := 7, ground := Go.Ground.chain }], guard := Option.none }) rfl (fun K hK => ?_) AllReadyH.nil
            go_simp
            go_at_call 22
            refine (kC _ (HS.out.below (HA_3.out.step HB_34.out).2.2.2.2) hc20).mono ?_
            rintro e v35 ⟨uc_35, rfl, RC_35, b35⟩
            have HB_36 : Hid (Below wA.heap.size wA v35) := HB_34.out.trans (b35.mono HB_34.out.size)
            have RU_36 : Hid (Cpv v35 v4.heap.size u1_6 l) := RU_34.out.below b35
            have K_36 : Hid (Blk v35 v8.heap.size [.int .i64 0, .int .i64 0, .string ⟨#[]⟩, .string ⟨#[]⟩, .string ⟨#[]⟩, .string ⟨#[]⟩, .slice none 0 0] 30) := K_34.out.below b35 K_34.out.lt
            have RN_36 : Hid (Cpv v35 wz_31.heap.size un_33 nx) := RN_33.out.below b35
            clear b35
            refine hK.out _ _ (hflat _ (HA_3.out.step HB_36.out)) (fun hHeld => ?_)
            clear hK K
            try simp only [Act.put, List.setIfInBounds_toArray, List.set_cons_zero, List.set_cons_succ]
            refine wpAnyH_ready (rs := [11]) (by kernel_rfl) (by decide) ?_
            refine AllReadyH.cons (o := { dst := Option.some 58, op := Go.Op.call { callee := Go.Callee.value (Go.Operand.func 8), args := #[Go.Operand.tmp 48, Go.Operand.tmp 50, Go.Operand.tmp 52, Go.Operand.tmp 54, Go.Operand.tmp 56, Go.Operand.tmp 57], argTypes := #[25, 30, 27, 28, 33, 3] }, type := 36, pos := "exact.go:4024", after := #[{ on := 1, ground := Go.Ground.data }, { on := 3, ground := Go.Ground.data }, { on := 5, ground := Go.Ground.data }, { on := 7, ground := Go.Ground.data }, { on := 9, ground := Go.Ground.data }, { on := 10, ground := Go.Ground.data }, { on := 9, ground := Go.Ground.chain }], guard := Option.none }) rfl (fun K hK => ?_) AllReadyH.nil
            go_simp
            go_at_call 8
            refine (kS u1_6 un_33 uc_35 h20 hm20 _ RU_36.out.o (HPA.out _ _ _ RU_36.out) RN_36.out.o (HPN.out _ _ _ RN_36.out) RC_35.out.o).mono ?_
            rintro e v37 ⟨u_37, cu_37, rfl, ROW_37, b37⟩
            have HB_38 : Hid (Below wA.heap.size wA v37) := HB_36.out.trans (b37.mono HB_36.out.size)
            have RU_38 : Hid (Cpv v37 v4.heap.size u1_6 l) := RU_36.out.below b37
            have K_38 : Hid (Blk v37 v8.heap.size [.int .i64 0, .int .i64 0, .string ⟨#[]⟩, .string ⟨#[]⟩, .string ⟨#[]⟩, .string ⟨#[]⟩, .slice none 0 0] 30) := K_36.out.below b37 K_36.out.lt
            have RN_38 : Hid (Cpv v37 wz_31.heap.size un_33 nx) := RN_36.out.below b37
            have RC_38 : Hid (Cop v37 v33.heap.size ⟨ch, cr, ci, cl⟩ uc_35) := RC_35.out.below b37
            have hbs_37 : wA.heap.size ≤ v35.heap.size := HB_36.out.size
            clear b37
            have hGb_37 : v8.heap.size < v35.heap.size := K_36.out.lt
            refine hK.out _ _ (hflat _ (HA_3.out.step HB_38.out)) (fun hHeld => ?_)
            clear hK K
            try simp only [Act.put, List.setIfInBounds_toArray, List.set_cons_zero, List.set_cons_succ]
            refine wpAnyH_take (i := 12) (oi := { dst := Option.some 46, op := Go.Op.move (Go.Operand.tmp 58), type := 36, pos := "exact.go:4024", after := #[{ on := 11, ground := Go.Ground.data }], guard := Option.none }) (v := ?_) rfl (by kernel_rfl) (by kernel_rfl) (by kernel_rfl) (fun _ _ _ h => h) (Or.inl ⟨by rfl, ?_⟩) hHeld ?_
            rotate_left
            · intro w hSw
              try dsimp only at hSw
              go_simp
              try (with_reducible rfl)
            simp only [Act.put, List.setIfInBounds_toArray, List.set_cons_zero, List.set_cons_succ]
            refine wpAnyH_take (i := 13) (oi := { dst := Option.some 59, op := Go.Op.extract (Go.Operand.tmp 46) 0, type := 30, pos := "exact.go:4024", after := #[{ on := 12, ground := Go.Ground.data }], guard := Option.none }) (v := ?_) rfl (by kernel_rfl) (by kernel_rfl) (by kernel_rfl) (fun _ _ _ h => h) (Or.inl ⟨by rfl, ?_⟩) hHeld ?_
            rotate_left
            · intro w hSw
              try dsimp only at hSw
              go_simp
              try (with_reducible rfl)
            simp only [Act.put, List.setIfInBounds_toArray, List.set_cons_zero, List.set_cons_succ]
            refine wpAnyH_take (i := 14) (oi := { dst := Option.some 60, op := Go.Op.extract (Go.Operand.tmp 46) 1, type := 3, pos := "exact.go:4024", after := #[{ on := 12, ground := Go.Ground.data }, { on := 16, ground := Go.Ground.gcOnly Go.Departure.lateStores }], guard := Option.none }) (v := ?_) rfl (by kernel_rfl) (by kernel_rfl) (by kernel_rfl) (fun _ _ _ h => h) (Or.inl ⟨by rfl, ?_⟩) hHeld ?_
            rotate_left
            · intro w hSw
              try dsimp only at hSw
              go_simp
              try (with_reducible rfl)
            simp only [Act.put, List.setIfInBounds_toArray, List.set_cons_zero, List.set_cons_succ]
            refine wpAnyH_ready (rs := [16]) (by kernel_rfl) (by decide) ?_
            refine AllReadyH.cons (o := { dst := Option.none, op := Go.Op.store 30 (Go.Operand.tmp 14) (Go.Operand.tmp 59), type := 0, pos := "exact.go:4024", after := #[{ on := 15, ground := Go.Ground.data }, { on := 13, ground := Go.Ground.data }, { on := 11, ground := Go.Ground.chain }, { on := 0, ground := Go.Ground.phase }, { on := 1, ground := Go.Ground.phase }, { on := 2, ground := Go.Ground.phase }, { on := 3, ground := Go.Ground.phase }, { on := 4, ground := Go.Ground.phase }, { on := 5, ground := Go.Ground.phase }, { on := 6, ground := Go.Ground.phase }, { on := 7, ground := Go.Ground.phase }, { on := 8, ground := Go.Ground.phase }, { on := 9, ground := Go.Ground.phase }, { on := 10, ground := Go.Ground.phase }, { on := 11, ground := Go.Ground.phase }, { on := 12, ground := Go.Ground.phase }, { on := 13, ground := Go.Ground.phase }, { on := 14, ground := Go.Ground.textOnly Go.Departure.lateStores }, { on := 15, ground := Go.Ground.phase }], guard := Option.none }) rfl (fun K hK => ?_) AllReadyH.nil
            have RS_39 : Rr v37 v35.heap.size v37.heap.size v8.heap.size u_37 gl := OwnV.rr ROW_37.out (Nat.le_refl _) (fun b h1 h2 => by omega)
            have RF_39 : Hid (Rr (((((((v37.setCell ⟨v8.heap.size, 0, none⟩ (.int .i64 gh)).setCell ⟨v8.heap.size, 1, none⟩ (.int .i64 gt)).setCell ⟨v8.heap.size, 2, none⟩ (.string ga)).setCell ⟨v8.heap.size, 3, none⟩ (.string gv)).setCell ⟨v8.heap.size, 4, none⟩ (.string gn)).setCell ⟨v8.heap.size, 5, none⟩ (.string gd)).setCell ⟨v8.heap.size, 6, none⟩ (.slice u_37 mg cu_37)) wA.heap.size v37.heap.size v8.heap.size u_37 gl) := (((((((RS_39.set 0 _).set 1 _).set 2 _).set 3 _).set 4 _).set 5 _).set 6 _).low (by omega)
            have KF_39 : Hid (Blk (((((((v37.setCell ⟨v8.heap.size, 0, none⟩ (.int .i64 gh)).setCell ⟨v8.heap.size, 1, none⟩ (.int .i64 gt)).setCell ⟨v8.heap.size, 2, none⟩ (.string ga)).setCell ⟨v8.heap.size, 3, none⟩ (.string gv)).setCell ⟨v8.heap.size, 4, none⟩ (.string gn)).setCell ⟨v8.heap.size, 5, none⟩ (.string gd)).setCell ⟨v8.heap.size, 6, none⟩ (.slice u_37 mg cu_37)) v8.heap.size [.int .i64 gh, .int .i64 gt, .string ga, .string gv, .string gn, .string gd, .slice u_37 mg cu_37] 30) := (((((((K_38.out.set 0 _).set 1 _).set 2 _).set 3 _).set 4 _).set 5 _).set 6 _)
            have HB_39 : Hid (Below wA.heap.size wA (((((((v37.setCell ⟨v8.heap.size, 0, none⟩ (.int .i64 gh)).setCell ⟨v8.heap.size, 1, none⟩ (.int .i64 gt)).setCell ⟨v8.heap.size, 2, none⟩ (.string ga)).setCell ⟨v8.heap.size, 3, none⟩ (.string gv)).setCell ⟨v8.heap.size, 4, none⟩ (.string gn)).setCell ⟨v8.heap.size, 5, none⟩ (.string gd)).setCell ⟨v8.heap.size, 6, none⟩ (.slice u_37 mg cu_37))) := (((((((HB_38.out.setCell (p := ⟨v8.heap.size, 0, none⟩) hG_31 _).setCell (p := ⟨v8.heap.size, 1, none⟩) hG_31 _).setCell (p := ⟨v8.heap.size, 2, none⟩) hG_31 _).setCell (p := ⟨v8.heap.size, 3, none⟩) hG_31 _).setCell (p := ⟨v8.heap.size, 4, none⟩) hG_31 _).setCell (p := ⟨v8.heap.size, 5, none⟩) hG_31 _).setCell (p := ⟨v8.heap.size, 6, none⟩) hG_31 _)
            have p_39_0 := K_38.out.cell 0 rfl
            have p_39_1 := K_38.out.cell 1 rfl
            have p_39_2 := K_38.out.cell 2 rfl
            have p_39_3 := K_38.out.cell 3 rfl
            have p_39_4 := K_38.out.cell 4 rfl
            have p_39_5 := K_38.out.cell 5 rfl
            have p_39_6 := K_38.out.cell 6 rfl
            have pf_39 := fun q => K_38.out.frozen q
            go_simp
            refine hK.out _ _ (hflat _ (HA_3.out.step HB_39.out)) (fun hHeld => ?_)
            clear hK K
            try simp only [Act.put, List.setIfInBounds_toArray, List.set_cons_zero, List.set_cons_succ]
            refine wpAnyH_take (i := 17) (oi := { dst := Option.some 15, op := Go.Op.assign (Go.Operand.tmp 60), type := 3, pos := "exact.go:4024", after := #[{ on := 14, ground := Go.Ground.data }, { on := 16, ground := Go.Ground.chain }, { on := 0, ground := Go.Ground.phase }, { on := 1, ground := Go.Ground.phase }, { on := 2, ground := Go.Ground.phase }, { on := 3, ground := Go.Ground.phase }, { on := 4, ground := Go.Ground.phase }, { on := 5, ground := Go.Ground.phase }, { on := 6, ground := Go.Ground.phase }, { on := 7, ground := Go.Ground.phase }, { on := 8, ground := Go.Ground.phase }, { on := 9, ground := Go.Ground.phase }, { on := 10, ground := Go.Ground.phase }, { on := 11, ground := Go.Ground.phase }, { on := 12, ground := Go.Ground.phase }, { on := 13, ground := Go.Ground.phase }, { on := 14, ground := Go.Ground.phase }, { on := 15, ground := Go.Ground.phase }, { on := 16, ground := Go.Ground.phase }], guard := Option.none }) (v := ?_) rfl (by kernel_rfl) (by kernel_rfl) (by kernel_rfl) (fun _ _ _ h => h) (Or.inl ⟨by rfl, ?_⟩) hHeld ?_
            rotate_left
            · intro w hSw
              try dsimp only at hSw
              go_simp
              try (with_reducible rfl)
            simp only [Act.put, List.setIfInBounds_toArray, List.set_cons_zero, List.set_cons_succ]
            refine wpAnyH_done (by kernel_rfl) ?_ _
            go_wp2_with fail
            go_meet
            exact ⟨v8.heap.size, u_37, cu_37, rfl, rfl, ⟨⟨hG_31, KF_39.out⟩, RF_39.out.top, HB_39.out⟩⟩
        · have bA_40 : Below v6.heap.size v6 (v6.alloc (.cells [.int .i64 0, .int .i64 0, .string ⟨#[]⟩, .string ⟨#[]⟩, .string ⟨#[]⟩, .string ⟨#[]⟩, .slice none 0 0].toArray 30)) := below_one _ _
          have HB_41 : Hid (Below wA.heap.size wA (v6.alloc (.cells [.int .i64 0, .int .i64 0, .string ⟨#[]⟩, .string ⟨#[]⟩, .string ⟨#[]⟩, .string ⟨#[]⟩, .slice none 0 0].toArray 30))) := HB_7.out.trans (bA_40.mono HB_7.out.size)
          have RU_41 : Hid (Cpv (v6.alloc (.cells [.int .i64 0, .int .i64 0, .string ⟨#[]⟩, .string ⟨#[]⟩, .string ⟨#[]⟩, .string ⟨#[]⟩, .slice none 0 0].toArray 30)) v4.heap.size u1_6 l) := RU_6.out.below bA_40
          have K_40 : Hid (Blk (v6.alloc (.cells [.int .i64 0, .int .i64 0, .string ⟨#[]⟩, .string ⟨#[]⟩, .string ⟨#[]⟩, .string ⟨#[]⟩, .slice none 0 0].toArray 30)) v6.heap.size [.int .i64 0, .int .i64 0, .string ⟨#[]⟩, .string ⟨#[]⟩, .string ⟨#[]⟩, .string ⟨#[]⟩, .slice none 0 0] 30) := blk_new v6 _ _
          have hG_40 : wA.heap.size ≤ v6.heap.size := HB_7.out.size
          go_simp
          generalize v6.alloc (Obj.cells [.int .i64 0, .int .i64 0, .string ⟨#[]⟩, .string ⟨#[]⟩, .string ⟨#[]⟩, .string ⟨#[]⟩, .slice none 0 0].toArray 30) = wz_40 at *
          refine hK.out _ _ (hflat _ (HA_3.out.step HB_41.out)) (fun hHeld => ?_)
          clear hK K
          try simp only [Act.put, List.setIfInBounds_toArray, List.set_cons_zero, List.set_cons_succ]
          refine wpAnyH_ready (rs := [5]) (by kernel_rfl) (by decide) ?_
          refine AllReadyH.cons (o := { dst := Option.some 52, op := Go.Op.call { callee := Go.Callee.value (Go.Operand.func 20), args := #[Go.Operand.tmp 51], argTypes := #[45] }, type := 27, pos := "exact.go:4024", after := #[{ on := 4, ground := Go.Ground.data }, { on := 3, ground := Go.Ground.chain }], guard := Option.none }) rfl (fun K hK => ?_) AllReadyH.nil
          go_simp
          go_at_call 20
          refine (kX _).mono ?_
          rintro e v42 ⟨rfl, b42⟩
          have HB_43 : Hid (Below wA.heap.size wA v42) := HB_41.out.trans (b42.mono HB_41.out.size)
          have RU_43 : Hid (Cpv v42 v4.heap.size u1_6 l) := RU_41.out.below b42
          have K_43 : Hid (Blk v42 v6.heap.size [.int .i64 0, .int .i64 0, .string ⟨#[]⟩, .string ⟨#[]⟩, .string ⟨#[]⟩, .string ⟨#[]⟩, .slice none 0 0] 30) := K_40.out.below b42 K_40.out.lt
          clear b42
          refine hK.out _ _ (hflat _ (HA_3.out.step HB_43.out)) (fun hHeld => ?_)
          clear hK K
          try simp only [Act.put, List.setIfInBounds_toArray, List.set_cons_zero, List.set_cons_succ]
          refine wpAnyH_ready (rs := [7]) (by kernel_rfl) (by decide) ?_
          refine AllReadyH.cons (o := { dst := Option.some 54, op := Go.Op.call { callee := Go.Callee.value (Go.Operand.func 21), args := #[Go.Operand.tmp 53], argTypes := #[46] }, type := 28, pos := "exact.go:4024", after := #[{ on := 6, ground := Go.Ground.data }, { on := 5, ground := Go.Ground.chain }], guard := Option.none }) rfl (fun K hK => ?_) AllReadyH.nil
          go_simp
          go_at_call 21
          refine (kN _ (HN.out.below (HA_3.out.step HB_43.out).2.2.2.2) hm20).mono ?_
          rintro e v44 ⟨un_44, rfl, RN_44, b44⟩
          have HB_45 : Hid (Below wA.heap.size wA v44) := HB_43.out.trans (b44.mono HB_43.out.size)
          have RU_45 : Hid (Cpv v44 v4.heap.size u1_6 l) := RU_43.out.below b44
          have K_45 : Hid (Blk v44 v6.heap.size [.int .i64 0, .int .i64 0, .string ⟨#[]⟩, .string ⟨#[]⟩, .string ⟨#[]⟩, .string ⟨#[]⟩, .slice none 0 0] 30) := K_43.out.below b44 K_43.out.lt
          clear b44
          refine hK.out _ _ (hflat _ (HA_3.out.step HB_45.out)) (fun hHeld => ?_)
          clear hK K
          try simp only [Act.put, List.setIfInBounds_toArray, List.set_cons_zero, List.set_cons_succ]
          refine wpAnyH_ready (rs := [9]) (by kernel_rfl) (by decide) ?_
          refine AllReadyH.cons (o := { dst := Option.some 56, op := Go.Op.call { callee := Go.Callee.value (Go.Operand.func 22), args := #[Go.Operand.tmp 55], argTypes := #[51] }, type := 33, pos := "exact.go:4024", after := #[{ on := 8, ground := Go.Ground.data }, { on := 7, ground := Go.Ground.chain }], guard := Option.none }) rfl (fun K hK => ?_) AllReadyH.nil
          go_simp
          go_at_call 22
          refine (kC _ (HS.out.below (HA_3.out.step HB_45.out).2.2.2.2) hc20).mono ?_
          rintro e v46 ⟨uc_46, rfl, RC_46, b46⟩
          have HB_47 : Hid (Below wA.heap.size wA v46) := HB_45.out.trans (b46.mono HB_45.out.size)
          have RU_47 : Hid (Cpv v46 v4.heap.size u1_6 l) := RU_45.out.below b46
          have K_47 : Hid (Blk v46 v6.heap.size [.int .i64 0, .int .i64 0, .string ⟨#[]⟩, .string ⟨#[]⟩, .string ⟨#[]⟩, .string ⟨#[]⟩, .slice none 0 0] 30) := K_45.out.below b46 K_45.out.lt
          have RN_47 : Hid (Cpv v46 v42.heap.size un_44 nx) := RN_44.out.below b46
          clear b46
          refine hK.out _ _ (hflat _ (HA_3.out.step HB_47.out)) (fun hHeld => ?_)
          clear hK K
          try simp only [Act.put, List.setIfInBounds_toArray, List.set_cons_zero, List.set_cons_succ]
          refine wpAnyH_ready (rs := [11]) (by kernel_rfl) (by decide) ?_
          refine AllReadyH.cons (o := { dst := Option.some 58, op := Go.Op.call { callee := Go.Callee.value (Go.Operand.func 8), args := #[Go.Operand.tmp 48, Go.Operand.tmp 50, Go.Operand.tmp 52, Go.Operand.tmp 54, Go.Operand.tmp 56, Go.Operand.tmp 57], argTypes := #[25, 30, 27, 28, 33, 3] }, type := 36, pos := "exact.go:4024", after := #[{ on := 1, ground := Go.Ground.data }, { on := 3, ground := Go.Ground.data }, { on := 5, ground := Go.Ground.data }, { on := 7, ground := Go.Ground.data }, { on := 9, ground := Go.Ground.data }, { on := 10, ground := Go.Ground.data }, { on := 9, ground := Go.Ground.chain }], guard := Option.none }) rfl (fun K hK => ?_) AllReadyH.nil
          go_simp
          go_at_call 8
          refine (kS u1_6 un_44 uc_46 h20 hm20 _ RU_47.out.o (HPA.out _ _ _ RU_47.out) RN_47.out.o (HPN.out _ _ _ RN_47.out) RC_46.out.o).mono ?_
          rintro e v48 ⟨u_48, cu_48, rfl, ROW_48, b48⟩
          have HB_49 : Hid (Below wA.heap.size wA v48) := HB_47.out.trans (b48.mono HB_47.out.size)
          have RU_49 : Hid (Cpv v48 v4.heap.size u1_6 l) := RU_47.out.below b48
          have K_49 : Hid (Blk v48 v6.heap.size [.int .i64 0, .int .i64 0, .string ⟨#[]⟩, .string ⟨#[]⟩, .string ⟨#[]⟩, .string ⟨#[]⟩, .slice none 0 0] 30) := K_47.out.below b48 K_47.out.lt
          have RN_49 : Hid (Cpv v48 v42.heap.size un_44 nx) := RN_47.out.below b48
          have RC_49 : Hid (Cop v48 v44.heap.size ⟨ch, cr, ci, cl⟩ uc_46) := RC_46.out.below b48
          have hbs_48 : wA.heap.size ≤ v46.heap.size := HB_47.out.size
          clear b48
          have hGb_48 : v6.heap.size < v46.heap.size := K_47.out.lt
          refine hK.out _ _ (hflat _ (HA_3.out.step HB_49.out)) (fun hHeld => ?_)
          clear hK K
          try simp only [Act.put, List.setIfInBounds_toArray, List.set_cons_zero, List.set_cons_succ]
          refine wpAnyH_take (i := 12) (oi := { dst := Option.some 46, op := Go.Op.move (Go.Operand.tmp 58), type := 36, pos := "exact.go:4024", after := #[{ on := 11, ground := Go.Ground.data }], guard := Option.none }) (v := ?_) rfl (by kernel_rfl) (by kernel_rfl) (by kernel_rfl) (fun _ _ _ h => h) (Or.inl ⟨by rfl, ?_⟩) hHeld ?_
          rotate_left
          · intro w hSw
            try dsimp only at hSw
            go_simp
            try (with_reducible rfl)
          simp only [Act.put, List.setIfInBounds_toArray, List.set_cons_zero, List.set_cons_succ]
          refine wpAnyH_take (i := 13) (oi := { dst := Option.some 59, op := Go.Op.extract (Go.Operand.tmp 46) 0, type := 30, pos := "exact.go:4024", after := #[{ on := 12, ground := Go.Ground.data }], guard := Option.none }) (v := ?_) rfl (by kernel_rfl) (by kernel_rfl) (by kernel_rfl) (fun _ _ _ h => h) (Or.inl ⟨by rfl, ?_⟩) hHeld ?_
          rotate_left
          · intro w hSw
            try dsimp only at hSw
            go_simp
            try (with_reducible rfl)
          simp only [Act.put, List.setIfInBounds_toArray, List.set_cons_zero, List.set_cons_succ]
          refine wpAnyH_take (i := 14) (oi := { dst := Option.some 60, op := Go.Op.extract (Go.Operand.tmp 46) 1, type := 3, pos := "exact.go:4024", after := #[{ on := 12, ground := Go.Ground.data }, { on := 16, ground := Go.Ground.gcOnly Go.Departure.lateStores }], guard := Option.none }) (v := ?_) rfl (by kernel_rfl) (by kernel_rfl) (by kernel_rfl) (fun _ _ _ h => h) (Or.inl ⟨by rfl, ?_⟩) hHeld ?_
          rotate_left
          · intro w hSw
            try dsimp only at hSw
            go_simp
            try (with_reducible rfl)
          simp only [Act.put, List.setIfInBounds_toArray, List.set_cons_zero, List.set_cons_succ]
          refine wpAnyH_ready (rs := [16]) (by kernel_rfl) (by decide) ?_
          refine AllReadyH.cons (o := { dst := Option.none, op := Go.Op.store 30 (Go.Operand.tmp 14) (Go.Operand.tmp 59), type := 0, pos := "exact.go:4024", after := #[{ on := 15, ground := Go.Ground.data }, { on := 13, ground := Go.Ground.data }, { on := 11, ground := Go.Ground.chain }, { on := 0, ground := Go.Ground.phase }, { on := 1, ground := Go.Ground.phase }, { on := 2, ground := Go.Ground.phase }, { on := 3, ground := Go.Ground.phase }, { on := 4, ground := Go.Ground.phase }, { on := 5, ground := Go.Ground.phase }, { on := 6, ground := Go.Ground.phase }, { on := 7, ground := Go.Ground.phase }, { on := 8, ground := Go.Ground.phase }, { on := 9, ground := Go.Ground.phase }, { on := 10, ground := Go.Ground.phase }, { on := 11, ground := Go.Ground.phase }, { on := 12, ground := Go.Ground.phase }, { on := 13, ground := Go.Ground.phase }, { on := 14, ground := Go.Ground.textOnly Go.Departure.lateStores }, { on := 15, ground := Go.Ground.phase }], guard := Option.none }) rfl (fun K hK => ?_) AllReadyH.nil
          have RS_50 : Rr v48 v46.heap.size v48.heap.size v6.heap.size u_48 gl := OwnV.rr ROW_48.out (Nat.le_refl _) (fun b h1 h2 => by omega)
          have RF_50 : Hid (Rr (((((((v48.setCell ⟨v6.heap.size, 0, none⟩ (.int .i64 gh)).setCell ⟨v6.heap.size, 1, none⟩ (.int .i64 gt)).setCell ⟨v6.heap.size, 2, none⟩ (.string ga)).setCell ⟨v6.heap.size, 3, none⟩ (.string gv)).setCell ⟨v6.heap.size, 4, none⟩ (.string gn)).setCell ⟨v6.heap.size, 5, none⟩ (.string gd)).setCell ⟨v6.heap.size, 6, none⟩ (.slice u_48 mg cu_48)) wA.heap.size v48.heap.size v6.heap.size u_48 gl) := (((((((RS_50.set 0 _).set 1 _).set 2 _).set 3 _).set 4 _).set 5 _).set 6 _).low (by omega)
          have KF_50 : Hid (Blk (((((((v48.setCell ⟨v6.heap.size, 0, none⟩ (.int .i64 gh)).setCell ⟨v6.heap.size, 1, none⟩ (.int .i64 gt)).setCell ⟨v6.heap.size, 2, none⟩ (.string ga)).setCell ⟨v6.heap.size, 3, none⟩ (.string gv)).setCell ⟨v6.heap.size, 4, none⟩ (.string gn)).setCell ⟨v6.heap.size, 5, none⟩ (.string gd)).setCell ⟨v6.heap.size, 6, none⟩ (.slice u_48 mg cu_48)) v6.heap.size [.int .i64 gh, .int .i64 gt, .string ga, .string gv, .string gn, .string gd, .slice u_48 mg cu_48] 30) := (((((((K_49.out.set 0 _).set 1 _).set 2 _).set 3 _).set 4 _).set 5 _).set 6 _)
          have HB_50 : Hid (Below wA.heap.size wA (((((((v48.setCell ⟨v6.heap.size, 0, none⟩ (.int .i64 gh)).setCell ⟨v6.heap.size, 1, none⟩ (.int .i64 gt)).setCell ⟨v6.heap.size, 2, none⟩ (.string ga)).setCell ⟨v6.heap.size, 3, none⟩ (.string gv)).setCell ⟨v6.heap.size, 4, none⟩ (.string gn)).setCell ⟨v6.heap.size, 5, none⟩ (.string gd)).setCell ⟨v6.heap.size, 6, none⟩ (.slice u_48 mg cu_48))) := (((((((HB_49.out.setCell (p := ⟨v6.heap.size, 0, none⟩) hG_40 _).setCell (p := ⟨v6.heap.size, 1, none⟩) hG_40 _).setCell (p := ⟨v6.heap.size, 2, none⟩) hG_40 _).setCell (p := ⟨v6.heap.size, 3, none⟩) hG_40 _).setCell (p := ⟨v6.heap.size, 4, none⟩) hG_40 _).setCell (p := ⟨v6.heap.size, 5, none⟩) hG_40 _).setCell (p := ⟨v6.heap.size, 6, none⟩) hG_40 _)
          have p_50_0 := K_49.out.cell 0 rfl
          have p_50_1 := K_49.out.cell 1 rfl
          have p_50_2 := K_49.out.cell 2 rfl
          have p_50_3 := K_49.out.cell 3 rfl
          have p_50_4 := K_49.out.cell 4 rfl
          have p_50_5 := K_49.out.cell 5 rfl
          have p_50_6 := K_49.out.cell 6 rfl
          have pf_50 := fun q => K_49.out.frozen q
          go_simp
          refine hK.out _ _ (hflat _ (HA_3.out.step HB_50.out)) (fun hHeld => ?_)
          clear hK K
          try simp only [Act.put, List.setIfInBounds_toArray, List.set_cons_zero, List.set_cons_succ]
          refine wpAnyH_take (i := 17) (oi := { dst := Option.some 15, op := Go.Op.assign (Go.Operand.tmp 60), type := 3, pos := "exact.go:4024", after := #[{ on := 14, ground := Go.Ground.data }, { on := 16, ground := Go.Ground.chain }, { on := 0, ground := Go.Ground.phase }, { on := 1, ground := Go.Ground.phase }, { on := 2, ground := Go.Ground.phase }, { on := 3, ground := Go.Ground.phase }, { on := 4, ground := Go.Ground.phase }, { on := 5, ground := Go.Ground.phase }, { on := 6, ground := Go.Ground.phase }, { on := 7, ground := Go.Ground.phase }, { on := 8, ground := Go.Ground.phase }, { on := 9, ground := Go.Ground.phase }, { on := 10, ground := Go.Ground.phase }, { on := 11, ground := Go.Ground.phase }, { on := 12, ground := Go.Ground.phase }, { on := 13, ground := Go.Ground.phase }, { on := 14, ground := Go.Ground.phase }, { on := 15, ground := Go.Ground.phase }, { on := 16, ground := Go.Ground.phase }], guard := Option.none }) (v := ?_) rfl (by kernel_rfl) (by kernel_rfl) (by kernel_rfl) (fun _ _ _ h => h) (Or.inl ⟨by rfl, ?_⟩) hHeld ?_
          rotate_left
          · intro w hSw
            try dsimp only at hSw
            go_simp
            try (with_reducible rfl)
          simp only [Act.put, List.setIfInBounds_toArray, List.set_cons_zero, List.set_cons_succ]
          refine wpAnyH_done (by kernel_rfl) ?_ _
          go_wp2_with fail
          go_meet
          exact ⟨v6.heap.size, u_48, cu_48, rfl, rfl, ⟨⟨hG_40, KF_50.out⟩, RF_50.out.top, HB_50.out⟩⟩
      · have bA_51 : Below v4.heap.size v4 (v4.alloc (.cells [.int .i64 0, .int .i64 0, .string ⟨#[]⟩, .string ⟨#[]⟩, .string ⟨#[]⟩, .string ⟨#[]⟩, .slice none 0 0].toArray 30)) := below_one _ _
        have HB_52 : Hid (Below wA.heap.size wA (v4.alloc (.cells [.int .i64 0, .int .i64 0, .string ⟨#[]⟩, .string ⟨#[]⟩, .string ⟨#[]⟩, .string ⟨#[]⟩, .slice none 0 0].toArray 30))) := HB_5.out.trans (bA_51.mono HB_5.out.size)
        have K_51 : Hid (Blk (v4.alloc (.cells [.int .i64 0, .int .i64 0, .string ⟨#[]⟩, .string ⟨#[]⟩, .string ⟨#[]⟩, .string ⟨#[]⟩, .slice none 0 0].toArray 30)) v4.heap.size [.int .i64 0, .int .i64 0, .string ⟨#[]⟩, .string ⟨#[]⟩, .string ⟨#[]⟩, .string ⟨#[]⟩, .slice none 0 0] 30) := blk_new v4 _ _
        have hG_51 : wA.heap.size ≤ v4.heap.size := HB_5.out.size
        go_simp
        generalize v4.alloc (Obj.cells [.int .i64 0, .int .i64 0, .string ⟨#[]⟩, .string ⟨#[]⟩, .string ⟨#[]⟩, .string ⟨#[]⟩, .slice none 0 0].toArray 30) = wz_51 at *
        refine hK.out _ _ (hflat _ (HA_3.out.step HB_52.out)) (fun hHeld => ?_)
        clear hK K
        try simp only [Act.put, List.setIfInBounds_toArray, List.set_cons_zero, List.set_cons_succ]
        refine wpAnyH_ready (rs := [3]) (by kernel_rfl) (by decide) ?_
        refine AllReadyH.cons (o := { dst := Option.some 50, op := Go.Op.call { callee := Go.Callee.value (Go.Operand.func 19), args := #[Go.Operand.tmp 49], argTypes := #[48] }, type := 30, pos := "exact.go:4024", after := #[{ on := 2, ground := Go.Ground.data }, { on := 1, ground := Go.Ground.chain }], guard := Option.none }) rfl (fun K hK => ?_) AllReadyH.nil
        go_simp
        go_at_call 19
        refine (kA _ (HL.out.below (HA_3.out.step HB_52.out).2.2.2.2) h20).mono ?_
        rintro e v53 ⟨u1_53, rfl, RU_53, b53⟩
        have HB_54 : Hid (Below wA.heap.size wA v53) := HB_52.out.trans (b53.mono HB_52.out.size)
        have K_54 : Hid (Blk v53 v4.heap.size [.int .i64 0, .int .i64 0, .string ⟨#[]⟩, .string ⟨#[]⟩, .string ⟨#[]⟩, .string ⟨#[]⟩, .slice none 0 0] 30) := K_51.out.below b53 K_51.out.lt
        clear b53
        refine hK.out _ _ (hflat _ (HA_3.out.step HB_54.out)) (fun hHeld => ?_)
        clear hK K
        try simp only [Act.put, List.setIfInBounds_toArray, List.set_cons_zero, List.set_cons_succ]
        refine wpAnyH_ready (rs := [5]) (by kernel_rfl) (by decide) ?_
        refine AllReadyH.cons (o := { dst := Option.some 52, op := Go.Op.call { callee := Go.Callee.value (Go.Operand.func 20), args := #[Go.Operand.tmp 51], argTypes := #[45] }, type := 27, pos := "exact.go:4024", after := #[{ on := 4, ground := Go.Ground.data }, { on := 3, ground := Go.Ground.chain }], guard := Option.none }) rfl (fun K hK => ?_) AllReadyH.nil
        go_simp
        go_at_call 20
        refine (kX _).mono ?_
        rintro e v55 ⟨rfl, b55⟩
        have HB_56 : Hid (Below wA.heap.size wA v55) := HB_54.out.trans (b55.mono HB_54.out.size)
        have K_56 : Hid (Blk v55 v4.heap.size [.int .i64 0, .int .i64 0, .string ⟨#[]⟩, .string ⟨#[]⟩, .string ⟨#[]⟩, .string ⟨#[]⟩, .slice none 0 0] 30) := K_54.out.below b55 K_54.out.lt
        have RU_56 : Hid (Cpv v55 wz_51.heap.size u1_53 l) := RU_53.out.below b55
        clear b55
        refine hK.out _ _ (hflat _ (HA_3.out.step HB_56.out)) (fun hHeld => ?_)
        clear hK K
        try simp only [Act.put, List.setIfInBounds_toArray, List.set_cons_zero, List.set_cons_succ]
        refine wpAnyH_ready (rs := [7]) (by kernel_rfl) (by decide) ?_
        refine AllReadyH.cons (o := { dst := Option.some 54, op := Go.Op.call { callee := Go.Callee.value (Go.Operand.func 21), args := #[Go.Operand.tmp 53], argTypes := #[46] }, type := 28, pos := "exact.go:4024", after := #[{ on := 6, ground := Go.Ground.data }, { on := 5, ground := Go.Ground.chain }], guard := Option.none }) rfl (fun K hK => ?_) AllReadyH.nil
        go_simp
        go_at_call 21
        refine (kN _ (HN.out.below (HA_3.out.step HB_56.out).2.2.2.2) hm20).mono ?_
        rintro e v57 ⟨un_57, rfl, RN_57, b57⟩
        have HB_58 : Hid (Below wA.heap.size wA v57) := HB_56.out.trans (b57.mono HB_56.out.size)
        have K_58 : Hid (Blk v57 v4.heap.size [.int .i64 0, .int .i64 0, .string ⟨#[]⟩, .string ⟨#[]⟩, .string ⟨#[]⟩, .string ⟨#[]⟩, .slice none 0 0] 30) := K_56.out.below b57 K_56.out.lt
        have RU_58 : Hid (Cpv v57 wz_51.heap.size u1_53 l) := RU_56.out.below b57
        clear b57
        refine hK.out _ _ (hflat _ (HA_3.out.step HB_58.out)) (fun hHeld => ?_)
        clear hK K
        try simp only [Act.put, List.setIfInBounds_toArray, List.set_cons_zero, List.set_cons_succ]
        refine wpAnyH_ready (rs := [9]) (by kernel_rfl) (by decide) ?_
        refine AllReadyH.cons (o := { dst := Option.some 56, op := Go.Op.call { callee := Go.Callee.value (Go.Operand.func 22), args := #[Go.Operand.tmp 55], argTypes := #[51] }, type := 33, pos := "exact.go:4024", after := #[{ on := 8, ground := Go.Ground.data }, { on := 7, ground := Go.Ground.chain }], guard := Option.none }) rfl (fun K hK => ?_) AllReadyH.nil
        go_simp
        go_at_call 22
        refine (kC _ (HS.out.below (HA_3.out.step HB_58.out).2.2.2.2) hc20).mono ?_
        rintro e v59 ⟨uc_59, rfl, RC_59, b59⟩
        have HB_60 : Hid (Below wA.heap.size wA v59) := HB_58.out.trans (b59.mono HB_58.out.size)
        have K_60 : Hid (Blk v59 v4.heap.size [.int .i64 0, .int .i64 0, .string ⟨#[]⟩, .string ⟨#[]⟩, .string ⟨#[]⟩, .string ⟨#[]⟩, .slice none 0 0] 30) := K_58.out.below b59 K_58.out.lt
        have RU_60 : Hid (Cpv v59 wz_51.heap.size u1_53 l) := RU_58.out.below b59
        have RN_60 : Hid (Cpv v59 v55.heap.size un_57 nx) := RN_57.out.below b59
        clear b59
        refine hK.out _ _ (hflat _ (HA_3.out.step HB_60.out)) (fun hHeld => ?_)
        clear hK K
        try simp only [Act.put, List.setIfInBounds_toArray, List.set_cons_zero, List.set_cons_succ]
        refine wpAnyH_ready (rs := [11]) (by kernel_rfl) (by decide) ?_
        refine AllReadyH.cons (o := { dst := Option.some 58, op := Go.Op.call { callee := Go.Callee.value (Go.Operand.func 8), args := #[Go.Operand.tmp 48, Go.Operand.tmp 50, Go.Operand.tmp 52, Go.Operand.tmp 54, Go.Operand.tmp 56, Go.Operand.tmp 57], argTypes := #[25, 30, 27, 28, 33, 3] }, type := 36, pos := "exact.go:4024", after := #[{ on := 1, ground := Go.Ground.data }, { on := 3, ground := Go.Ground.data }, { on := 5, ground := Go.Ground.data }, { on := 7, ground := Go.Ground.data }, { on := 9, ground := Go.Ground.data }, { on := 10, ground := Go.Ground.data }, { on := 9, ground := Go.Ground.chain }], guard := Option.none }) rfl (fun K hK => ?_) AllReadyH.nil
        go_simp
        go_at_call 8
        refine (kS u1_53 un_57 uc_59 h20 hm20 _ RU_60.out.o (HPA.out _ _ _ RU_60.out) RN_60.out.o (HPN.out _ _ _ RN_60.out) RC_59.out.o).mono ?_
        rintro e v61 ⟨u_61, cu_61, rfl, ROW_61, b61⟩
        have HB_62 : Hid (Below wA.heap.size wA v61) := HB_60.out.trans (b61.mono HB_60.out.size)
        have K_62 : Hid (Blk v61 v4.heap.size [.int .i64 0, .int .i64 0, .string ⟨#[]⟩, .string ⟨#[]⟩, .string ⟨#[]⟩, .string ⟨#[]⟩, .slice none 0 0] 30) := K_60.out.below b61 K_60.out.lt
        have RU_62 : Hid (Cpv v61 wz_51.heap.size u1_53 l) := RU_60.out.below b61
        have RN_62 : Hid (Cpv v61 v55.heap.size un_57 nx) := RN_60.out.below b61
        have RC_62 : Hid (Cop v61 v57.heap.size ⟨ch, cr, ci, cl⟩ uc_59) := RC_59.out.below b61
        have hbs_61 : wA.heap.size ≤ v59.heap.size := HB_60.out.size
        clear b61
        have hGb_61 : v4.heap.size < v59.heap.size := K_60.out.lt
        refine hK.out _ _ (hflat _ (HA_3.out.step HB_62.out)) (fun hHeld => ?_)
        clear hK K
        try simp only [Act.put, List.setIfInBounds_toArray, List.set_cons_zero, List.set_cons_succ]
        refine wpAnyH_take (i := 12) (oi := { dst := Option.some 46, op := Go.Op.move (Go.Operand.tmp 58), type := 36, pos := "exact.go:4024", after := #[{ on := 11, ground := Go.Ground.data }], guard := Option.none }) (v := ?_) rfl (by kernel_rfl) (by kernel_rfl) (by kernel_rfl) (fun _ _ _ h => h) (Or.inl ⟨by rfl, ?_⟩) hHeld ?_
        rotate_left
        · intro w hSw
          try dsimp only at hSw
          go_simp
          try (with_reducible rfl)
        simp only [Act.put, List.setIfInBounds_toArray, List.set_cons_zero, List.set_cons_succ]
        refine wpAnyH_take (i := 13) (oi := { dst := Option.some 59, op := Go.Op.extract (Go.Operand.tmp 46) 0, type := 30, pos := "exact.go:4024", after := #[{ on := 12, ground := Go.Ground.data }], guard := Option.none }) (v := ?_) rfl (by kernel_rfl) (by kernel_rfl) (by kernel_rfl) (fun _ _ _ h => h) (Or.inl ⟨by rfl, ?_⟩) hHeld ?_
        rotate_left
        · intro w hSw
          try dsimp only at hSw
          go_simp
          try (with_reducible rfl)
        simp only [Act.put, List.setIfInBounds_toArray, List.set_cons_zero, List.set_cons_succ]
        refine wpAnyH_take (i := 14) (oi := { dst := Option.some 60, op := Go.Op.extract (Go.Operand.tmp 46) 1, type := 3, pos := "exact.go:4024", after := #[{ on := 12, ground := Go.Ground.data }, { on := 16, ground := Go.Ground.gcOnly Go.Departure.lateStores }], guard := Option.none }) (v := ?_) rfl (by kernel_rfl) (by kernel_rfl) (by kernel_rfl) (fun _ _ _ h => h) (Or.inl ⟨by rfl, ?_⟩) hHeld ?_
        rotate_left
        · intro w hSw
          try dsimp only at hSw
          go_simp
          try (with_reducible rfl)
        simp only [Act.put, List.setIfInBounds_toArray, List.set_cons_zero, List.set_cons_succ]
        refine wpAnyH_ready (rs := [16]) (by kernel_rfl) (by decide) ?_
        refine AllReadyH.cons (o := { dst := Option.none, op := Go.Op.store 30 (Go.Operand.tmp 14) (Go.Operand.tmp 59), type := 0, pos := "exact.go:4024", after := #[{ on := 15, ground := Go.Ground.data }, { on := 13, ground := Go.Ground.data }, { on := 11, ground := Go.Ground.chain }, { on := 0, ground := Go.Ground.phase }, { on := 1, ground := Go.Ground.phase }, { on := 2, ground := Go.Ground.phase }, { on := 3, ground := Go.Ground.phase }, { on := 4, ground := Go.Ground.phase }, { on := 5, ground := Go.Ground.phase }, { on := 6, ground := Go.Ground.phase }, { on := 7, ground := Go.Ground.phase }, { on := 8, ground := Go.Ground.phase }, { on := 9, ground := Go.Ground.phase }, { on := 10, ground := Go.Ground.phase }, { on := 11, ground := Go.Ground.phase }, { on := 12, ground := Go.Ground.phase }, { on := 13, ground := Go.Ground.phase }, { on := 14, ground := Go.Ground.textOnly Go.Departure.lateStores }, { on := 15, ground := Go.Ground.phase }], guard := Option.none }) rfl (fun K hK => ?_) AllReadyH.nil
        have RS_63 : Rr v61 v59.heap.size v61.heap.size v4.heap.size u_61 gl := OwnV.rr ROW_61.out (Nat.le_refl _) (fun b h1 h2 => by omega)
        have RF_63 : Hid (Rr (((((((v61.setCell ⟨v4.heap.size, 0, none⟩ (.int .i64 gh)).setCell ⟨v4.heap.size, 1, none⟩ (.int .i64 gt)).setCell ⟨v4.heap.size, 2, none⟩ (.string ga)).setCell ⟨v4.heap.size, 3, none⟩ (.string gv)).setCell ⟨v4.heap.size, 4, none⟩ (.string gn)).setCell ⟨v4.heap.size, 5, none⟩ (.string gd)).setCell ⟨v4.heap.size, 6, none⟩ (.slice u_61 mg cu_61)) wA.heap.size v61.heap.size v4.heap.size u_61 gl) := (((((((RS_63.set 0 _).set 1 _).set 2 _).set 3 _).set 4 _).set 5 _).set 6 _).low (by omega)
        have KF_63 : Hid (Blk (((((((v61.setCell ⟨v4.heap.size, 0, none⟩ (.int .i64 gh)).setCell ⟨v4.heap.size, 1, none⟩ (.int .i64 gt)).setCell ⟨v4.heap.size, 2, none⟩ (.string ga)).setCell ⟨v4.heap.size, 3, none⟩ (.string gv)).setCell ⟨v4.heap.size, 4, none⟩ (.string gn)).setCell ⟨v4.heap.size, 5, none⟩ (.string gd)).setCell ⟨v4.heap.size, 6, none⟩ (.slice u_61 mg cu_61)) v4.heap.size [.int .i64 gh, .int .i64 gt, .string ga, .string gv, .string gn, .string gd, .slice u_61 mg cu_61] 30) := (((((((K_62.out.set 0 _).set 1 _).set 2 _).set 3 _).set 4 _).set 5 _).set 6 _)
        have HB_63 : Hid (Below wA.heap.size wA (((((((v61.setCell ⟨v4.heap.size, 0, none⟩ (.int .i64 gh)).setCell ⟨v4.heap.size, 1, none⟩ (.int .i64 gt)).setCell ⟨v4.heap.size, 2, none⟩ (.string ga)).setCell ⟨v4.heap.size, 3, none⟩ (.string gv)).setCell ⟨v4.heap.size, 4, none⟩ (.string gn)).setCell ⟨v4.heap.size, 5, none⟩ (.string gd)).setCell ⟨v4.heap.size, 6, none⟩ (.slice u_61 mg cu_61))) := (((((((HB_62.out.setCell (p := ⟨v4.heap.size, 0, none⟩) hG_51 _).setCell (p := ⟨v4.heap.size, 1, none⟩) hG_51 _).setCell (p := ⟨v4.heap.size, 2, none⟩) hG_51 _).setCell (p := ⟨v4.heap.size, 3, none⟩) hG_51 _).setCell (p := ⟨v4.heap.size, 4, none⟩) hG_51 _).setCell (p := ⟨v4.heap.size, 5, none⟩) hG_51 _).setCell (p := ⟨v4.heap.size, 6, none⟩) hG_51 _)
        have p_63_0 := K_62.out.cell 0 rfl
        have p_63_1 := K_62.out.cell 1 rfl
        have p_63_2 := K_62.out.cell 2 rfl
        have p_63_3 := K_62.out.cell 3 rfl
        have p_63_4 := K_62.out.cell 4 rfl
        have p_63_5 := K_62.out.cell 5 rfl
        have p_63_6 := K_62.out.cell 6 rfl
        have pf_63 := fun q => K_62.out.frozen q
        go_simp
        refine hK.out _ _ (hflat _ (HA_3.out.step HB_63.out)) (fun hHeld => ?_)
        clear hK K
        try simp only [Act.put, List.setIfInBounds_toArray, List.set_cons_zero, List.set_cons_succ]
        refine wpAnyH_take (i := 17) (oi := { dst := Option.some 15, op := Go.Op.assign (Go.Operand.tmp 60), type := 3, pos := "exact.go:4024", after := #[{ on := 14, ground := Go.Ground.data }, { on := 16, ground := Go.Ground.chain }, { on := 0, ground := Go.Ground.phase }, { on := 1, ground := Go.Ground.phase }, { on := 2, ground := Go.Ground.phase }, { on := 3, ground := Go.Ground.phase }, { on := 4, ground := Go.Ground.phase }, { on := 5, ground := Go.Ground.phase }, { on := 6, ground := Go.Ground.phase }, { on := 7, ground := Go.Ground.phase }, { on := 8, ground := Go.Ground.phase }, { on := 9, ground := Go.Ground.phase }, { on := 10, ground := Go.Ground.phase }, { on := 11, ground := Go.Ground.phase }, { on := 12, ground := Go.Ground.phase }, { on := 13, ground := Go.Ground.phase }, { on := 14, ground := Go.Ground.phase }, { on := 15, ground := Go.Ground.phase }, { on := 16, ground := Go.Ground.phase }], guard := Option.none }) (v := ?_) rfl (by kernel_rfl) (by kernel_rfl) (by kernel_rfl) (fun _ _ _ h => h) (Or.inl ⟨by rfl, ?_⟩) hHeld ?_
        rotate_left
        · intro w hSw
          try dsimp only at hSw
          go_simp
          try (with_reducible rfl)
        simp only [Act.put, List.setIfInBounds_toArray, List.set_cons_zero, List.set_cons_succ]
        refine wpAnyH_done (by kernel_rfl) ?_ _
        go_wp2_with fail
        go_meet
        exact ⟨v4.heap.size, u_61, cu_61, rfl, rfl, ⟨⟨hG_51, KF_63.out⟩, RF_63.out.top, HB_63.out⟩⟩
    · have bA_64 : Below wd.heap.size wd (wd.alloc (.cells [.int .i64 0, .int .i64 0, .string ⟨#[]⟩, .string ⟨#[]⟩, .string ⟨#[]⟩, .string ⟨#[]⟩, .slice none 0 0].toArray 30)) := below_one _ _
      have HB_65 : Hid (Below wA.heap.size wA (wd.alloc (.cells [.int .i64 0, .int .i64 0, .string ⟨#[]⟩, .string ⟨#[]⟩, .string ⟨#[]⟩, .string ⟨#[]⟩, .slice none 0 0].toArray 30))) := HBd_wA.out.trans (bA_64.mono HBd_wA.out.size)
      have K_64 : Hid (Blk (wd.alloc (.cells [.int .i64 0, .int .i64 0, .string ⟨#[]⟩, .string ⟨#[]⟩, .string ⟨#[]⟩, .string ⟨#[]⟩, .slice none 0 0].toArray 30)) wd.heap.size [.int .i64 0, .int .i64 0, .string ⟨#[]⟩, .string ⟨#[]⟩, .string ⟨#[]⟩, .string ⟨#[]⟩, .slice none 0 0] 30) := blk_new wd _ _
      have hG_64 : wA.heap.size ≤ wd.heap.size := HBd_wA.out.size
      go_simp
      generalize wd.alloc (Obj.cells [.int .i64 0, .int .i64 0, .string ⟨#[]⟩, .string ⟨#[]⟩, .string ⟨#[]⟩, .string ⟨#[]⟩, .slice none 0 0].toArray 30) = wz_64 at *
      refine hK.out _ _ (hflat _ (HA_3.out.step HB_65.out)) (fun hHeld => ?_)
      clear hK K
      try simp only [Act.put, List.setIfInBounds_toArray, List.set_cons_zero, List.set_cons_succ]
      refine wpAnyH_ready (rs := [1]) (by kernel_rfl) (by decide) ?_
      refine AllReadyH.cons (o := { dst := Option.some 48, op := Go.Op.call { callee := Go.Callee.value (Go.Operand.func 18), args := #[Go.Operand.tmp 47], argTypes := #[44] }, type := 25, pos := "exact.go:4024", after := #[{ on := 0, ground := Go.Ground.data }], guard := Option.none }) rfl (fun K hK => ?_) AllReadyH.nil
      go_simp
      go_at_call 18
      refine (kT _).mono ?_
      rintro e v66 ⟨rfl, b66⟩
      have HB_67 : Hid (Below wA.heap.size wA v66) := HB_65.out.trans (b66.mono HB_65.out.size)
      have K_67 : Hid (Blk v66 wd.heap.size [.int .i64 0, .int .i64 0, .string ⟨#[]⟩, .string ⟨#[]⟩, .string ⟨#[]⟩, .string ⟨#[]⟩, .slice none 0 0] 30) := K_64.out.below b66 K_64.out.lt
      clear b66
      refine hK.out _ _ (hflat _ (HA_3.out.step HB_67.out)) (fun hHeld => ?_)
      clear hK K
      try simp only [Act.put, List.setIfInBounds_toArray, List.set_cons_zero, List.set_cons_succ]
      refine wpAnyH_ready (rs := [3]) (by kernel_rfl) (by decide) ?_
      refine AllReadyH.cons (o := { dst := Option.some 50, op := Go.Op.call { callee := Go.Callee.value (Go.Operand.func 19), args := #[Go.Operand.tmp 49], argTypes := #[48] }, type := 30, pos := "exact.go:4024", after := #[{ on := 2, ground := Go.Ground.data }, { on := 1, ground := Go.Ground.chain }], guard := Option.none }) rfl (fun K hK => ?_) AllReadyH.nil
      go_simp
      go_at_call 19
      refine (kA _ (HL.out.below (HA_3.out.step HB_67.out).2.2.2.2) h20).mono ?_
      rintro e v68 ⟨u1_68, rfl, RU_68, b68⟩
      have HB_69 : Hid (Below wA.heap.size wA v68) := HB_67.out.trans (b68.mono HB_67.out.size)
      have K_69 : Hid (Blk v68 wd.heap.size [.int .i64 0, .int .i64 0, .string ⟨#[]⟩, .string ⟨#[]⟩, .string ⟨#[]⟩, .string ⟨#[]⟩, .slice none 0 0] 30) := K_67.out.below b68 K_67.out.lt
      clear b68
      refine hK.out _ _ (hflat _ (HA_3.out.step HB_69.out)) (fun hHeld => ?_)
      clear hK K
      try simp only [Act.put, List.setIfInBounds_toArray, List.set_cons_zero, List.set_cons_succ]
      refine wpAnyH_ready (rs := [5]) (by kernel_rfl) (by decide) ?_
      refine AllReadyH.cons (o := { dst := Option.some 52, op := Go.Op.call { callee := Go.Callee.value (Go.Operand.func 20), args := #[Go.Operand.tmp 51], argTypes := #[45] }, type := 27, pos := "exact.go:4024", after := #[{ on := 4, ground := Go.Ground.data }, { on := 3, ground := Go.Ground.chain }], guard := Option.none }) rfl (fun K hK => ?_) AllReadyH.nil
      go_simp
      go_at_call 20
      refine (kX _).mono ?_
      rintro e v70 ⟨rfl, b70⟩
      have HB_71 : Hid (Below wA.heap.size wA v70) := HB_69.out.trans (b70.mono HB_69.out.size)
      have K_71 : Hid (Blk v70 wd.heap.size [.int .i64 0, .int .i64 0, .string ⟨#[]⟩, .string ⟨#[]⟩, .string ⟨#[]⟩, .string ⟨#[]⟩, .slice none 0 0] 30) := K_69.out.below b70 K_69.out.lt
      have RU_71 : Hid (Cpv v70 v66.heap.size u1_68 l) := RU_68.out.below b70
      clear b70
      refine hK.out _ _ (hflat _ (HA_3.out.step HB_71.out)) (fun hHeld => ?_)
      clear hK K
      try simp only [Act.put, List.setIfInBounds_toArray, List.set_cons_zero, List.set_cons_succ]
      refine wpAnyH_ready (rs := [7]) (by kernel_rfl) (by decide) ?_
      refine AllReadyH.cons (o := { dst := Option.some 54, op := Go.Op.call { callee := Go.Callee.value (Go.Operand.func 21), args := #[Go.Operand.tmp 53], argTypes := #[46] }, type := 28, pos := "exact.go:4024", after := #[{ on := 6, ground := Go.Ground.data }, { on := 5, ground := Go.Ground.chain }], guard := Option.none }) rfl (fun K hK => ?_) AllReadyH.nil
      go_simp
      go_at_call 21
      refine (kN _ (HN.out.below (HA_3.out.step HB_71.out).2.2.2.2) hm20).mono ?_
      rintro e v72 ⟨un_72, rfl, RN_72, b72⟩
      have HB_73 : Hid (Below wA.heap.size wA v72) := HB_71.out.trans (b72.mono HB_71.out.size)
      have K_73 : Hid (Blk v72 wd.heap.size [.int .i64 0, .int .i64 0, .string ⟨#[]⟩, .string ⟨#[]⟩, .string ⟨#[]⟩, .string ⟨#[]⟩, .slice none 0 0] 30) := K_71.out.below b72 K_71.out.lt
      have RU_73 : Hid (Cpv v72 v66.heap.size u1_68 l) := RU_71.out.below b72
      clear b72
      refine hK.out _ _ (hflat _ (HA_3.out.step HB_73.out)) (fun hHeld => ?_)
      clear hK K
      try simp only [Act.put, List.setIfInBounds_toArray, List.set_cons_zero, List.set_cons_succ]
      refine wpAnyH_ready (rs := [9]) (by kernel_rfl) (by decide) ?_
      refine AllReadyH.cons (o := { dst := Option.some 56, op := Go.Op.call { callee := Go.Callee.value (Go.Operand.func 22), args := #[Go.Operand.tmp 55], argTypes := #[51] }, type := 33, pos := "exact.go:4024", after := #[{ on := 8, ground := Go.Ground.data }, { on := 7, ground := Go.Ground.chain }], guard := Option.none }) rfl (fun K hK => ?_) AllReadyH.nil
      go_simp
      go_at_call 22
      refine (kC _ (HS.out.below (HA_3.out.step HB_73.out).2.2.2.2) hc20).mono ?_
      rintro e v74 ⟨uc_74, rfl, RC_74, b74⟩
      have HB_75 : Hid (Below wA.heap.size wA v74) := HB_73.out.trans (b74.mono HB_73.out.size)
      have K_75 : Hid (Blk v74 wd.heap.size [.int .i64 0, .int .i64 0, .string ⟨#[]⟩, .string ⟨#[]⟩, .string ⟨#[]⟩, .string ⟨#[]⟩, .slice none 0 0] 30) := K_73.out.below b74 K_73.out.lt
      have RU_75 : Hid (Cpv v74 v66.heap.size u1_68 l) := RU_73.out.below b74
      have RN_75 : Hid (Cpv v74 v70.heap.size un_72 nx) := RN_72.out.below b74
      clear b74
      refine hK.out _ _ (hflat _ (HA_3.out.step HB_75.out)) (fun hHeld => ?_)
      clear hK K
      try simp only [Act.put, List.setIfInBounds_toArray, List.set_cons_zero, List.set_cons_succ]
      refine wpAnyH_ready (rs := [11]) (by kernel_rfl) (by decide) ?_
      refine AllReadyH.cons (o := { dst := Option.some 58, op := Go.Op.call { callee := Go.Callee.value (Go.Operand.func 8), args := #[Go.Operand.tmp 48, Go.Operand.tmp 50, Go.Operand.tmp 52, Go.Operand.tmp 54, Go.Operand.tmp 56, Go.Operand.tmp 57], argTypes := #[25, 30, 27, 28, 33, 3] }, type := 36, pos := "exact.go:4024", after := #[{ on := 1, ground := Go.Ground.data }, { on := 3, ground := Go.Ground.data }, { on := 5, ground := Go.Ground.data }, { on := 7, ground := Go.Ground.data }, { on := 9, ground := Go.Ground.data }, { on := 10, ground := Go.Ground.data }, { on := 9, ground := Go.Ground.chain }], guard := Option.none }) rfl (fun K hK => ?_) AllReadyH.nil
      go_simp
      go_at_call 8
      refine (kS u1_68 un_72 uc_74 h20 hm20 _ RU_75.out.o (HPA.out _ _ _ RU_75.out) RN_75.out.o (HPN.out _ _ _ RN_75.out) RC_74.out.o).mono ?_
      rintro e v76 ⟨u_76, cu_76, rfl, ROW_76, b76⟩
      have HB_77 : Hid (Below wA.heap.size wA v76) := HB_75.out.trans (b76.mono HB_75.out.size)
      have K_77 : Hid (Blk v76 wd.heap.size [.int .i64 0, .int .i64 0, .string ⟨#[]⟩, .string ⟨#[]⟩, .string ⟨#[]⟩, .string ⟨#[]⟩, .slice none 0 0] 30) := K_75.out.below b76 K_75.out.lt
      have RU_77 : Hid (Cpv v76 v66.heap.size u1_68 l) := RU_75.out.below b76
      have RN_77 : Hid (Cpv v76 v70.heap.size un_72 nx) := RN_75.out.below b76
      have RC_77 : Hid (Cop v76 v72.heap.size ⟨ch, cr, ci, cl⟩ uc_74) := RC_74.out.below b76
      have hbs_76 : wA.heap.size ≤ v74.heap.size := HB_75.out.size
      clear b76
      have hGb_76 : wd.heap.size < v74.heap.size := K_75.out.lt
      refine hK.out _ _ (hflat _ (HA_3.out.step HB_77.out)) (fun hHeld => ?_)
      clear hK K
      try simp only [Act.put, List.setIfInBounds_toArray, List.set_cons_zero, List.set_cons_succ]
      refine wpAnyH_take (i := 12) (oi := { dst := Option.some 46, op := Go.Op.move (Go.Operand.tmp 58), type := 36, pos := "exact.go:4024", after := #[{ on := 11, ground := Go.Ground.data }], guard := Option.none }) (v := ?_) rfl (by kernel_rfl) (by kernel_rfl) (by kernel_rfl) (fun _ _ _ h => h) (Or.inl ⟨by rfl, ?_⟩) hHeld ?_
      rotate_left
      · intro w hSw
        try dsimp only at hSw
        go_simp
        try (with_reducible rfl)
      simp only [Act.put, List.setIfInBounds_toArray, List.set_cons_zero, List.set_cons_succ]
      refine wpAnyH_take (i := 13) (oi := { dst := Option.some 59, op := Go.Op.extract (Go.Operand.tmp 46) 0, type := 30, pos := "exact.go:4024", after := #[{ on := 12, ground := Go.Ground.data }], guard := Option.none }) (v := ?_) rfl (by kernel_rfl) (by kernel_rfl) (by kernel_rfl) (fun _ _ _ h => h) (Or.inl ⟨by rfl, ?_⟩) hHeld ?_
      rotate_left
      · intro w hSw
        try dsimp only at hSw
        go_simp
        try (with_reducible rfl)
      simp only [Act.put, List.setIfInBounds_toArray, List.set_cons_zero, List.set_cons_succ]
      refine wpAnyH_take (i := 14) (oi := { dst := Option.some 60, op := Go.Op.extract (Go.Operand.tmp 46) 1, type := 3, pos := "exact.go:4024", after := #[{ on := 12, ground := Go.Ground.data }, { on := 16, ground := Go.Ground.gcOnly Go.Departure.lateStores }], guard := Option.none }) (v := ?_) rfl (by kernel_rfl) (by kernel_rfl) (by kernel_rfl) (fun _ _ _ h => h) (Or.inl ⟨by rfl, ?_⟩) hHeld ?_
      rotate_left
      · intro w hSw
        try dsimp only at hSw
        go_simp
        try (with_reducible rfl)
      simp only [Act.put, List.setIfInBounds_toArray, List.set_cons_zero, List.set_cons_succ]
      refine wpAnyH_ready (rs := [16]) (by kernel_rfl) (by decide) ?_
      refine AllReadyH.cons (o := { dst := Option.none, op := Go.Op.store 30 (Go.Operand.tmp 14) (Go.Operand.tmp 59), type := 0, pos := "exact.go:4024", after := #[{ on := 15, ground := Go.Ground.data }, { on := 13, ground := Go.Ground.data }, { on := 11, ground := Go.Ground.chain }, { on := 0, ground := Go.Ground.phase }, { on := 1, ground := Go.Ground.phase }, { on := 2, ground := Go.Ground.phase }, { on := 3, ground := Go.Ground.phase }, { on := 4, ground := Go.Ground.phase }, { on := 5, ground := Go.Ground.phase }, { on := 6, ground := Go.Ground.phase }, { on := 7, ground := Go.Ground.phase }, { on := 8, ground := Go.Ground.phase }, { on := 9, ground := Go.Ground.phase }, { on := 10, ground := Go.Ground.phase }, { on := 11, ground := Go.Ground.phase }, { on := 12, ground := Go.Ground.phase }, { on := 13, ground := Go.Ground.phase }, { on := 14, ground := Go.Ground.textOnly Go.Departure.lateStores }, { on := 15, ground := Go.Ground.phase }], guard := Option.none }) rfl (fun K hK => ?_) AllReadyH.nil
      have RS_78 : Rr v76 v74.heap.size v76.heap.size wd.heap.size u_76 gl := OwnV.rr ROW_76.out (Nat.le_refl _) (fun b h1 h2 => by omega)
      have RF_78 : Hid (Rr (((((((v76.setCell ⟨wd.heap.size, 0, none⟩ (.int .i64 gh)).setCell ⟨wd.heap.size, 1, none⟩ (.int .i64 gt)).setCell ⟨wd.heap.size, 2, none⟩ (.string ga)).setCell ⟨wd.heap.size, 3, none⟩ (.string gv)).setCell ⟨wd.heap.size, 4, none⟩ (.string gn)).setCell ⟨wd.heap.size, 5, none⟩ (.string gd)).setCell ⟨wd.heap.size, 6, none⟩ (.slice u_76 mg cu_76)) wA.heap.size v76.heap.size wd.heap.size u_76 gl) := (((((((RS_78.set 0 _).set 1 _).set 2 _).set 3 _).set 4 _).set 5 _).set 6 _).low (by omega)
      have KF_78 : Hid (Blk (((((((v76.setCell ⟨wd.heap.size, 0, none⟩ (.int .i64 gh)).setCell ⟨wd.heap.size, 1, none⟩ (.int .i64 gt)).setCell ⟨wd.heap.size, 2, none⟩ (.string ga)).setCell ⟨wd.heap.size, 3, none⟩ (.string gv)).setCell ⟨wd.heap.size, 4, none⟩ (.string gn)).setCell ⟨wd.heap.size, 5, none⟩ (.string gd)).setCell ⟨wd.heap.size, 6, none⟩ (.slice u_76 mg cu_76)) wd.heap.size [.int .i64 gh, .int .i64 gt, .string ga, .string gv, .string gn, .string gd, .slice u_76 mg cu_76] 30) := (((((((K_77.out.set 0 _).set 1 _).set 2 _).set 3 _).set 4 _).set 5 _).set 6 _)
      have HB_78 : Hid (Below wA.heap.size wA (((((((v76.setCell ⟨wd.heap.size, 0, none⟩ (.int .i64 gh)).setCell ⟨wd.heap.size, 1, none⟩ (.int .i64 gt)).setCell ⟨wd.heap.size, 2, none⟩ (.string ga)).setCell ⟨wd.heap.size, 3, none⟩ (.string gv)).setCell ⟨wd.heap.size, 4, none⟩ (.string gn)).setCell ⟨wd.heap.size, 5, none⟩ (.string gd)).setCell ⟨wd.heap.size, 6, none⟩ (.slice u_76 mg cu_76))) := (((((((HB_77.out.setCell (p := ⟨wd.heap.size, 0, none⟩) hG_64 _).setCell (p := ⟨wd.heap.size, 1, none⟩) hG_64 _).setCell (p := ⟨wd.heap.size, 2, none⟩) hG_64 _).setCell (p := ⟨wd.heap.size, 3, none⟩) hG_64 _).setCell (p := ⟨wd.heap.size, 4, none⟩) hG_64 _).setCell (p := ⟨wd.heap.size, 5, none⟩) hG_64 _).setCell (p := ⟨wd.heap.size, 6, none⟩) hG_64 _)
      have p_78_0 := K_77.out.cell 0 rfl
      have p_78_1 := K_77.out.cell 1 rfl
      have p_78_2 := K_77.out.cell 2 rfl
      have p_78_3 := K_77.out.cell 3 rfl
      have p_78_4 := K_77.out.cell 4 rfl
      have p_78_5 := K_77.out.cell 5 rfl
      have p_78_6 := K_77.out.cell 6 rfl
      have pf_78 := fun q => K_77.out.frozen q
      go_simp
      refine hK.out _ _ (hflat _ (HA_3.out.step HB_78.out)) (fun hHeld => ?_)
      clear hK K
      try simp only [Act.put, List.setIfInBounds_toArray, List.set_cons_zero, List.set_cons_succ]
      refine wpAnyH_take (i := 17) (oi := { dst := Option.some 15, op := Go.Op.assign (Go.Operand.tmp 60), type := 3, pos := "exact.go:4024", after := #[{ on := 14, ground := Go.Ground.data }, { on := 16, ground := Go.Ground.chain }, { on := 0, ground := Go.Ground.phase }, { on := 1, ground := Go.Ground.phase }, { on := 2, ground := Go.Ground.phase }, { on := 3, ground := Go.Ground.phase }, { on := 4, ground := Go.Ground.phase }, { on := 5, ground := Go.Ground.phase }, { on := 6, ground := Go.Ground.phase }, { on := 7, ground := Go.Ground.phase }, { on := 8, ground := Go.Ground.phase }, { on := 9, ground := Go.Ground.phase }, { on := 10, ground := Go.Ground.phase }, { on := 11, ground := Go.Ground.phase }, { on := 12, ground := Go.Ground.phase }, { on := 13, ground := Go.Ground.phase }, { on := 14, ground := Go.Ground.phase }, { on := 15, ground := Go.Ground.phase }, { on := 16, ground := Go.Ground.phase }], guard := Option.none }) (v := ?_) rfl (by kernel_rfl) (by kernel_rfl) (by kernel_rfl) (fun _ _ _ h => h) (Or.inl ⟨by rfl, ?_⟩) hHeld ?_
      rotate_left
      · intro w hSw
        try dsimp only at hSw
        go_simp
        try (with_reducible rfl)
      simp only [Act.put, List.setIfInBounds_toArray, List.set_cons_zero, List.set_cons_succ]
      refine wpAnyH_done (by kernel_rfl) ?_ _
      go_wp2_with fail
      go_meet
      exact ⟨wd.heap.size, u_76, cu_76, rfl, rfl, ⟨⟨hG_64, KF_78.out⟩, RF_78.out.top, HB_78.out⟩⟩
  case rest =>
  rename World => wB
  obtain ⟨G0, u0, c0, rfl, rfl, HF0⟩ := hcut
  have HA_79 : Hid (Arg w wB ⟨tp, ts⟩ ⟨yh, yt, ya, yv, yn, yd⟩ (.slice p m cap) ⟨h, t, aa, v, n, d⟩ ⟨ch, cr, ci, cl⟩ b cb) := HA_3.out.step HF0.out.2.2
  clear HA_3
  have K0 : Hid (Blk wB G0 [.int .i64 gh, .int .i64 gt, .string ga, .string gv, .string gn, .string gd, .slice u0 mg c0] 30) := HF0.out.1.2
  have R0 : Hid (Rr wB wA.heap.size wB.heap.size G0 u0 gl) := HF0.out.2.1
  have g0a : wA.heap.size ≤ G0 := HF0.out.1.1
  have g0b : G0 < wB.heap.size := K0.out.lt
  have sAB : wA.heap.size ≤ wB.heap.size := HF0.out.2.2.size
  clear HF0 kS
  obtain ⟨⟨at0, at1⟩, ⟨ay0, ay1, ay2, ay3, ay4, ay5, ay6⟩, ⟨ax0, ax1, ax2, ax3, ax4, ax5⟩, ⟨ac0, ac1, ac2, ac3⟩⟩ := hflat _ HA_79.out
  go_wp2_with fail
  refine (kA _ (HL.out.below HA_79.out.2.2.2.2) h20).mono ?_
  rintro e wC ⟨u1, rfl, HU1, bb⟩
  clear at0 at1 ay0 ay1 ay2 ay3 ay4 ay5 ay6 ax0 ax1 ax2 ax3 ax4 ax5 ac0 ac1 ac2 ac3 
  have sBC0 : wB.heap.size ≤ wC.heap.size := bb.size
  have HA_80 : Hid (Arg w wC ⟨tp, ts⟩ ⟨yh, yt, ya, yv, yn, yd⟩ (.slice p m cap) ⟨h, t, aa, v, n, d⟩ ⟨ch, cr, ci, cl⟩ b cb) := HA_79.out.step bb
  have K0_80 : Hid (Blk wC G0 [.int .i64 gh, .int .i64 gt, .string ga, .string gv, .string gn, .string gd, .slice u0 mg c0] 30) := K0.out.below bb K0.out.lt
  have R0_80 : Hid (Rr wC wA.heap.size wB.heap.size G0 u0 gl) := R0.out.below bb
  clear HA_79 K0 R0
  clear bb
  have HN1 : Hid (u1 = none → m = 0) := HPA.out _ _ _ HU1.out
  obtain ⟨wD, hwD⟩ : ∃ W, wC.alloc (Obj.cells #[.int .i64 yh, .int .i64 yt, .string ya, .string yv, .string yn, .string yd, .slice u1 m m] 30) = W := ⟨_, rfl⟩
  obtain ⟨G1, hG1⟩ : ∃ G, wC.heap.size = G := ⟨_, rfl⟩
  have hbD : Below wC.heap.size wC wD := by rw [← hwD]; exact below_one _ _
  have sCD : G1 < wD.heap.size := by rw [← hwD, ← hG1]; simp
  have sBC : wB.heap.size ≤ G1 := by omega
  have K1 : Hid (Blk wD G1 [.int .i64 yh, .int .i64 yt, .string ya, .string yv, .string yn, .string yd, .slice u1 m m] 30) := by rw [← hwD, ← hG1]; exact blk_new wC [.int .i64 yh, .int .i64 yt, .string ya, .string yv, .string yn, .string yd, .slice u1 m m] _
  have R1 : Hid (Rr wD wB.heap.size G1 0 u1 l) := (Cpv.rr HU1.out (by omega) (fun b e hb => by obtain ⟨b2, e2, h2, _⟩ := HU1.out; rw [e2] at e; injection e with e; injection e with e; omega)).below hbD
  have HA_81 : Hid (Arg w wD ⟨tp, ts⟩ ⟨yh, yt, ya, yv, yn, yd⟩ (.slice p m cap) ⟨h, t, aa, v, n, d⟩ ⟨ch, cr, ci, cl⟩ b cb) := HA_80.out.step hbD
  have K0_81 : Hid (Blk wD G0 [.int .i64 gh, .int .i64 gt, .string ga, .string gv, .string gn, .string gd, .slice u0 mg c0] 30) := K0_80.out.below hbD K0_80.out.lt
  have R0_81 : Hid (Rr wD wA.heap.size wB.heap.size G0 u0 gl) := R0_80.out.below hbD
  clear HA_80 K0_80 R0_80
  clear hbD HU1 sBC0
  go_wp2_with fail
  try rw [hwD]
  try rw [hG1]
  refine (kN _ (HN.out.below HA_81.out.2.2.2.2) hm20).mono ?_
  rintro e wE ⟨u3, rfl, HU3, bb⟩
  clear hwD hG1
  have sDE : wD.heap.size ≤ wE.heap.size := bb.size
  have HA_82 : Hid (Arg w wE ⟨tp, ts⟩ ⟨yh, yt, ya, yv, yn, yd⟩ (.slice p m cap) ⟨h, t, aa, v, n, d⟩ ⟨ch, cr, ci, cl⟩ b cb) := HA_81.out.step bb
  have K0_82 : Hid (Blk wE G0 [.int .i64 gh, .int .i64 gt, .string ga, .string gv, .string gn, .string gd, .slice u0 mg c0] 30) := K0_81.out.below bb K0_81.out.lt
  have R0_82 : Hid (Rr wE wA.heap.size wB.heap.size G0 u0 gl) := R0_81.out.below bb
  have K1_82 : Hid (Blk wE G1 [.int .i64 yh, .int .i64 yt, .string ya, .string yv, .string yn, .string yd, .slice u1 m m] 30) := K1.out.below bb K1.out.lt
  have R1_82 : Hid (Rr wE wB.heap.size G1 0 u1 l) := R1.out.below bb
  clear HA_81 K0_81 R0_81 K1 R1
  clear bb
  have HN3 : Hid (u3 = none → m' = 0) := HPN.out _ _ _ HU3.out
  have R3 : Hid (Rr wE wD.heap.size wE.heap.size 0 u3 nx) := Cpv.rr HU3.out (Nat.le_refl _) (fun b e hb => by obtain ⟨b2, e2, h2, _⟩ := HU3.out; rw [e2] at e; injection e with e; injection e with e; omega)
  clear HU3
  obtain ⟨⟨at0, at1⟩, ⟨ay0, ay1, ay2, ay3, ay4, ay5, ay6⟩, ⟨ax0, ax1, ax2, ax3, ax4, ax5⟩, ⟨ac0, ac1, ac2, ac3⟩⟩ := hflat _ HA_82.out
  go_wp2_with fail
  refine (kC _ (HS.out.below HA_82.out.2.2.2.2) hc20).mono ?_
  rintro e wF ⟨u4, rfl, HU4, bb⟩
  clear at0 at1 ay0 ay1 ay2 ay3 ay4 ay5 ay6 ax0 ax1 ax2 ax3 ax4 ax5 ac0 ac1 ac2 ac3 
  have sEF : wE.heap.size ≤ wF.heap.size := bb.size
  have HA_83 : Hid (Arg w wF ⟨tp, ts⟩ ⟨yh, yt, ya, yv, yn, yd⟩ (.slice p m cap) ⟨h, t, aa, v, n, d⟩ ⟨ch, cr, ci, cl⟩ b cb) := HA_82.out.step bb
  have K0_83 : Hid (Blk wF G0 [.int .i64 gh, .int .i64 gt, .string ga, .string gv, .string gn, .string gd, .slice u0 mg c0] 30) := K0_82.out.below bb K0_82.out.lt
  have R0_83 : Hid (Rr wF wA.heap.size wB.heap.size G0 u0 gl) := R0_82.out.below bb
  have K1_83 : Hid (Blk wF G1 [.int .i64 yh, .int .i64 yt, .string ya, .string yv, .string yn, .string yd, .slice u1 m m] 30) := K1_82.out.below bb K1_82.out.lt
  have R1_83 : Hid (Rr wF wB.heap.size G1 0 u1 l) := R1_82.out.below bb
  have R3_83 : Hid (Rr wF wD.heap.size wE.heap.size 0 u3 nx) := R3.out.below bb
  clear HA_82 K0_82 R0_82 K1_82 R1_82 R3
  clear bb
  obtain ⟨wG, hwG⟩ : ∃ W, wF.alloc (Obj.cells #[.int .i64 ch, .int .i64 cr, .string ci, .slice u4 cl.length cl.length] 33) = W := ⟨_, rfl⟩
  obtain ⟨G4, hG4⟩ : ∃ G, wF.heap.size = G := ⟨_, rfl⟩
  have hbG : Below wF.heap.size wF wG := by rw [← hwG]; exact below_one _ _
  have sFG : G4 < wG.heap.size := by rw [← hwG, ← hG4]; simp
  have sEG : wE.heap.size ≤ G4 := by omega
  have K4 : Hid (Blk wG G4 [.int .i64 ch, .int .i64 cr, .string ci, .slice u4 cl.length cl.length] 33) := by rw [← hwG, ← hG4]; exact blk_new wF [.int .i64 ch, .int .i64 cr, .string ci, .slice u4 cl.length cl.length] _
  have HU4b : Hid (∀ j, u4 = some ⟨j, 0, none⟩ → wE.heap.size ≤ j ∧ j < G4) := fun j e => by obtain ⟨b2, e2, h2, h3, _⟩ := HU4.out; rw [e2] at e; injection e with e; injection e with e; omega
  have C4 : Hid (Cop wG wE.heap.size ⟨ch, cr, ci, cl⟩ u4) := Cop.below HU4.out hbG
  have M4 : Hid (Mk wG wE.heap.size u4 cl.length) := (HCM.out _ _ _ HU4.out).below hbG
  have HA_84 : Hid (Arg w wG ⟨tp, ts⟩ ⟨yh, yt, ya, yv, yn, yd⟩ (.slice p m cap) ⟨h, t, aa, v, n, d⟩ ⟨ch, cr, ci, cl⟩ b cb) := HA_83.out.step hbG
  have K0_84 : Hid (Blk wG G0 [.int .i64 gh, .int .i64 gt, .string ga, .string gv, .string gn, .string gd, .slice u0 mg c0] 30) := K0_83.out.below hbG K0_83.out.lt
  have R0_84 : Hid (Rr wG wA.heap.size wB.heap.size G0 u0 gl) := R0_83.out.below hbG
  have K1_84 : Hid (Blk wG G1 [.int .i64 yh, .int .i64 yt, .string ya, .string yv, .string yn, .string yd, .slice u1 m m] 30) := K1_83.out.below hbG K1_83.out.lt
  have R1_84 : Hid (Rr wG wB.heap.size G1 0 u1 l) := R1_83.out.below hbG
  have R3_84 : Hid (Rr wG wD.heap.size wE.heap.size 0 u3 nx) := R3_83.out.below hbG
  clear HA_83 K0_83 R0_83 K1_83 R1_83 R3_83
  clear hbG HU4
  go_upto_region 18 with fail
  try rw [hwG]
  try rw [hG4]
  clear hwG hG4
  go_cut [19, 20] (fun s s' wx => ∃ (G : Nat) (u : Option Addr) (cu : Nat), s = .pointer (some ⟨G, 0, none⟩) ∧ s' = .int .i64 N ∧ Hid (Lft wG wx G [.int .i64 gh, .int .i64 gt, .string ga, .string gv, .string gn, .string gd, .slice u mg cu] u gl))
  case first =>
    have HBd_wG : Hid (Below wG.heap.size wG wG.drew) := (Below.refl _ _).drew
    refine wp_region_held_drew (S := (fun W : World => ((W.cell? ⟨w.heap.size, 0, none⟩ = some (.int .i64 tp) ∧ W.cell? ⟨w.heap.size, 1, none⟩ = some (.int .i64 ts)) ∧ (W.cell? ⟨w.heap.size + 1, 0, none⟩ = some (.int .i64 yh) ∧ W.cell? ⟨w.heap.size + 1, 1, none⟩ = some (.int .i64 yt) ∧ W.cell? ⟨w.heap.size + 1, 2, none⟩ = some (.string ya) ∧ W.cell? ⟨w.heap.size + 1, 3, none⟩ = some (.string yv) ∧ W.cell? ⟨w.heap.size + 1, 4, none⟩ = some (.string yn) ∧ W.cell? ⟨w.heap.size + 1, 5, none⟩ = some (.string yd) ∧ W.cell? ⟨w.heap.size + 1, 6, none⟩ = some (.slice p m cap)) ∧ (W.cell? ⟨w.heap.size + 2, 0, none⟩ = some (.int .i64 h) ∧ W.cell? ⟨w.heap.size + 2, 1, none⟩ = some (.int .i64 t) ∧ W.cell? ⟨w.heap.size + 2, 2, none⟩ = some (.string aa) ∧ W.cell? ⟨w.heap.size + 2, 3, none⟩ = some (.string v) ∧ W.cell? ⟨w.heap.size + 2, 4, none⟩ = some (.string n) ∧ W.cell? ⟨w.heap.size + 2, 5, none⟩ = some (.string d)) ∧ (W.cell? ⟨w.heap.size + 3, 0, none⟩ = some (.int .i64 ch) ∧ W.cell? ⟨w.heap.size + 3, 1, none⟩ = some (.int .i64 cr) ∧ W.cell? ⟨w.heap.size + 3, 2, none⟩ = some (.string ci) ∧ W.cell? ⟨w.heap.size + 3, 3, none⟩ = some (.slice b cl.length cb))) ∧ (W.cell? ⟨G1, 0, none⟩ = some (.int .i64 yh) ∧ W.cell? ⟨G1, 1, none⟩ = some (.int .i64 yt) ∧ W.cell? ⟨G1, 2, none⟩ = some (.string ya) ∧ W.cell? ⟨G1, 3, none⟩ = some (.string yv) ∧ W.cell? ⟨G1, 4, none⟩ = some (.string yn) ∧ W.cell? ⟨G1, 5, none⟩ = some (.string yd) ∧ W.cell? ⟨G1, 6, none⟩ = some (.slice u1 m m)) ∧ (W.cell? ⟨G4, 0, none⟩ = some (.int .i64 ch) ∧ W.cell? ⟨G4, 1, none⟩ = some (.int .i64 cr) ∧ W.cell? ⟨G4, 2, none⟩ = some (.string ci) ∧ W.cell? ⟨G4, 3, none⟩ = some (.slice u4 cl.length cl.length)))) (by kernel_rfl) ?_ (fun hHeld => ?_)
    · exact ⟨hflat _ (HA_84.out.step HBd_wG.out), ⟨(K1_84.out.below HBd_wG.out K1_84.out.lt).cell 0 rfl, (K1_84.out.below HBd_wG.out K1_84.out.lt).cell 1 rfl, (K1_84.out.below HBd_wG.out K1_84.out.lt).cell 2 rfl, (K1_84.out.below HBd_wG.out K1_84.out.lt).cell 3 rfl, (K1_84.out.below HBd_wG.out K1_84.out.lt).cell 4 rfl, (K1_84.out.below HBd_wG.out K1_84.out.lt).cell 5 rfl, (K1_84.out.below HBd_wG.out K1_84.out.lt).cell 6 rfl⟩, ⟨(K4.out.below HBd_wG.out K4.out.lt).cell 0 rfl, (K4.out.below HBd_wG.out K4.out.lt).cell 1 rfl, (K4.out.below HBd_wG.out K4.out.lt).cell 2 rfl, (K4.out.below HBd_wG.out K4.out.lt).cell 3 rfl⟩⟩
    generalize wG.drew = wd at *
    refine wpAnyH_take (i := 0) (oi := { dst := Option.some 68, op := Go.Op.load 44 (Go.Operand.tmp 6), type := 44, pos := "exact.go:4028", after := #[], guard := Option.none }) (v := ?_) rfl (by kernel_rfl) (by kernel_rfl) (by kernel_rfl) (fun _ _ _ h => h) (Or.inl ⟨by rfl, ?_⟩) hHeld ?_
    rotate_left
    · intro w hSw
      try dsimp only at hSw
      go_simp
      try (with_reducible rfl)
    simp only [Act.put, List.setIfInBounds_toArray, List.set_cons_zero, List.set_cons_succ]
    refine wpAnyH_take (i := 2) (oi := { dst := Option.some 70, op := Go.Op.load 30 (Go.Operand.tmp 16), type := 30, pos := "exact.go:4028", after := #[], guard := Option.none }) (v := ?_) rfl (by kernel_rfl) (by kernel_rfl) (by kernel_rfl) (fun _ _ _ h => h) (Or.inl ⟨by rfl, ?_⟩) hHeld ?_
    rotate_left
    · intro w hSw
      try dsimp only at hSw
      go_simp
      try (with_reducible rfl)
    simp only [Act.put, List.setIfInBounds_toArray, List.set_cons_zero, List.set_cons_succ]
    refine wpAnyH_take (i := 3) (oi := { dst := Option.some 71, op := Go.Op.load 45 (Go.Operand.tmp 8), type := 45, pos := "exact.go:4028", after := #[], guard := Option.none }) (v := ?_) rfl (by kernel_rfl) (by kernel_rfl) (by kernel_rfl) (fun _ _ _ h => h) (Or.inl ⟨by rfl, ?_⟩) hHeld ?_
    rotate_left
    · intro w hSw
      try dsimp only at hSw
      go_simp
      try (with_reducible rfl)
    simp only [Act.put, List.setIfInBounds_toArray, List.set_cons_zero, List.set_cons_succ]
    refine wpAnyH_take (i := 5) (oi := { dst := Option.some 73, op := Go.Op.move (Go.Operand.tmp 17), type := 28, pos := "exact.go:4028", after := #[], guard := Option.none }) (v := ?_) rfl (by kernel_rfl) (by kernel_rfl) (by kernel_rfl) (fun _ _ _ h => h) (Or.inl ⟨by rfl, ?_⟩) hHeld ?_
    rotate_left
    · intro w hSw
      try dsimp only at hSw
      go_simp
      try (with_reducible rfl)
    simp only [Act.put, List.setIfInBounds_toArray, List.set_cons_zero, List.set_cons_succ]
    refine wpAnyH_take (i := 6) (oi := { dst := Option.some 74, op := Go.Op.load 33 (Go.Operand.tmp 18), type := 33, pos := "exact.go:4028", after := #[], guard := Option.none }) (v := ?_) rfl (by kernel_rfl) (by kernel_rfl) (by kernel_rfl) (fun _ _ _ h => h) (Or.inl ⟨by rfl, ?_⟩) hHeld ?_
    rotate_left
    · intro w hSw
      try dsimp only at hSw
      go_simp
      try (with_reducible rfl)
    simp only [Act.put, List.setIfInBounds_toArray, List.set_cons_zero, List.set_cons_succ]
    refine wpAnyH_take (i := 7) (oi := { dst := Option.some 75, op := Go.Op.move (Go.Operand.tmp 5), type := 3, pos := "exact.go:4028", after := #[], guard := Option.none }) (v := ?_) rfl (by kernel_rfl) (by kernel_rfl) (by kernel_rfl) (fun _ _ _ h => h) (Or.inl ⟨by rfl, ?_⟩) hHeld ?_
    rotate_left
    · intro w hSw
      try dsimp only at hSw
      go_simp
      try (with_reducible rfl)
    simp only [Act.put, List.setIfInBounds_toArray, List.set_cons_zero, List.set_cons_succ]
    refine wpAnyH_ready (rs := [1, 12]) (by kernel_rfl) (by decide) ?_
    refine AllReadyH.cons (o := { dst := Option.some 69, op := Go.Op.call { callee := Go.Callee.value (Go.Operand.func 18), args := #[Go.Operand.tmp 68], argTypes := #[44] }, type := 25, pos := "exact.go:4028", after := #[{ on := 0, ground := Go.Ground.data }], guard := Option.none }) rfl (fun K hK => ?_) (AllReadyH.cons (o := { dst := Option.some 19, op := Go.Op.alloc 30, type := 0, pos := "exact.go:4028", after := #[], guard := Option.none }) rfl (fun K hK => ?_) AllReadyH.nil)
    · go_simp
      go_at_call 18
      refine (kT _).mono ?_
      rintro e v85 ⟨rfl, b85⟩
      have HB_86 : Hid (Below wG.heap.size wG v85) := HBd_wG.out.trans (b85.mono HBd_wG.out.size)
      clear b85
      refine hK.out _ _ (⟨hflat _ (HA_84.out.step HB_86.out), ⟨(K1_84.out.below HB_86.out K1_84.out.lt).cell 0 rfl, (K1_84.out.below HB_86.out K1_84.out.lt).cell 1 rfl, (K1_84.out.below HB_86.out K1_84.out.lt).cell 2 rfl, (K1_84.out.below HB_86.out K1_84.out.lt).cell 3 rfl, (K1_84.out.below HB_86.out K1_84.out.lt).cell 4 rfl, (K1_84.out.below HB_86.out K1_84.out.lt).cell 5 rfl, (K1_84.out.below HB_86.out K1_84.out.lt).cell 6 rfl⟩, ⟨(K4.out.below HB_86.out K4.out.lt).cell 0 rfl, (K4.out.below HB_86.out K4.out.lt).cell 1 rfl, (K4.out.below HB_86.out K4.out.lt).cell 2 rfl, (K4.out.below HB_86.out K4.out.lt).cell 3 rfl⟩⟩) (fun hHeld => ?_)
      clear hK K
      try simp only [Act.put, List.setIfInBounds_toArray, List.set_cons_zero, List.set_cons_succ]
      refine wpAnyH_ready (rs := [4, 12]) (by kernel_rfl) (by decide) ?_
      refine AllReadyH.cons (o := { dst := Option.some 72, op := Go.Op.call { callee := Go.Callee.value (Go.Operand.func 20), args := #[Go.Operand.tmp 71], argTypes := #[45] }, type := 27, pos := "exact.go:4028", after := #[{ on := 3, ground := Go.Ground.data }, { on := 1, ground := Go.Ground.chain }], guard := Option.none }) rfl (fun K hK => ?_) (AllReadyH.cons (o := { dst := Option.some 19, op := Go.Op.alloc 30, type := 0, pos := "exact.go:4028", after := #[], guard := Option.none }) rfl (fun K hK => ?_) AllReadyH.nil)
      · go_simp
        go_at_call 20
        refine (kX _).mono ?_
        rintro e v87 ⟨rfl, b87⟩
        have HB_88 : Hid (Below wG.heap.size wG v87) := HB_86.out.trans (b87.mono HB_86.out.size)
        clear b87
        refine hK.out _ _ (⟨hflat _ (HA_84.out.step HB_88.out), ⟨(K1_84.out.below HB_88.out K1_84.out.lt).cell 0 rfl, (K1_84.out.below HB_88.out K1_84.out.lt).cell 1 rfl, (K1_84.out.below HB_88.out K1_84.out.lt).cell 2 rfl, (K1_84.out.below HB_88.out K1_84.out.lt).cell 3 rfl, (K1_84.out.below HB_88.out K1_84.out.lt).cell 4 rfl, (K1_84.out.below HB_88.out K1_84.out.lt).cell 5 rfl, (K1_84.out.below HB_88.out K1_84.out.lt).cell 6 rfl⟩, ⟨(K4.out.below HB_88.out K4.out.lt).cell 0 rfl, (K4.out.below HB_88.out K4.out.lt).cell 1 rfl, (K4.out.below HB_88.out K4.out.lt).cell 2 rfl, (K4.out.below HB_88.out K4.out.lt).cell 3 rfl⟩⟩) (fun hHeld => ?_)
        clear hK K
        try simp only [Act.put, List.setIfInBounds_toArray, List.set_cons_zero, List.set_cons_succ]
        refine wpAnyH_ready (rs := [8, 12]) (by kernel_rfl) (by decide) ?_
        refine AllReadyH.cons (o := { dst := Option.some 76, op := Go.Op.call { callee := Go.Callee.value (Go.Operand.func 7), args := #[Go.Operand.tmp 69, Go.Operand.tmp 70, Go.Operand.tmp 72, Go.Operand.tmp 73, Go.Operand.tmp 74, Go.Operand.tmp 75], argTypes := #[25, 30, 27, 28, 33, 3] }, type := 36, pos := "exact.go:4028", after := #[{ on := 1, ground := Go.Ground.data }, { on := 2, ground := Go.Ground.data }, { on := 4, ground := Go.Ground.data }, { on := 5, ground := Go.Ground.data }, { on := 6, ground := Go.Ground.data }, { on := 7, ground := Go.Ground.data }, { on := 4, ground := Go.Ground.chain }], guard := Option.none }) rfl (fun K hK => ?_) (AllReadyH.cons (o := { dst := Option.some 19, op := Go.Op.alloc 30, type := 0, pos := "exact.go:4028", after := #[], guard := Option.none }) rfl (fun K hK => ?_) AllReadyH.nil)
        · go_simp
          go_at_call 7
          refine (kIc u1 u3 u4 h20 hm20 _ (R1_84.out.below HB_88.out).o HN1.out (R3_84.out.below HB_88.out).o HN3.out (Cop.below C4.out HB_88.out).o (HT.out.below (HA_84.out.step HB_88.out).2.2.2.2 HT.out.pos)).mono ?_
          rintro e v89 ⟨u_89, cu_89, rfl, ROW_89, b89⟩
          have HB_90 : Hid (Below wG.heap.size wG v89) := HB_88.out.trans (b89.mono HB_88.out.size)
          have hbs_89 : wG.heap.size ≤ v87.heap.size := HB_88.out.size
          clear b89
          refine hK.out _ _ (⟨hflat _ (HA_84.out.step HB_90.out), ⟨(K1_84.out.below HB_90.out K1_84.out.lt).cell 0 rfl, (K1_84.out.below HB_90.out K1_84.out.lt).cell 1 rfl, (K1_84.out.below HB_90.out K1_84.out.lt).cell 2 rfl, (K1_84.out.below HB_90.out K1_84.out.lt).cell 3 rfl, (K1_84.out.below HB_90.out K1_84.out.lt).cell 4 rfl, (K1_84.out.below HB_90.out K1_84.out.lt).cell 5 rfl, (K1_84.out.below HB_90.out K1_84.out.lt).cell 6 rfl⟩, ⟨(K4.out.below HB_90.out K4.out.lt).cell 0 rfl, (K4.out.below HB_90.out K4.out.lt).cell 1 rfl, (K4.out.below HB_90.out K4.out.lt).cell 2 rfl, (K4.out.below HB_90.out K4.out.lt).cell 3 rfl⟩⟩) (fun hHeld => ?_)
          clear hK K
          try simp only [Act.put, List.setIfInBounds_toArray, List.set_cons_zero, List.set_cons_succ]
          refine wpAnyH_take (i := 9) (oi := { dst := Option.some 67, op := Go.Op.move (Go.Operand.tmp 76), type := 36, pos := "exact.go:4028", after := #[{ on := 8, ground := Go.Ground.data }], guard := Option.none }) (v := ?_) rfl (by kernel_rfl) (by kernel_rfl) (by kernel_rfl) (fun _ _ _ h => h) (Or.inl ⟨by rfl, ?_⟩) hHeld ?_
          rotate_left
          · intro w hSw
            try dsimp only at hSw
            go_simp
            try (with_reducible rfl)
          simp only [Act.put, List.setIfInBounds_toArray, List.set_cons_zero, List.set_cons_succ]
          refine wpAnyH_take (i := 10) (oi := { dst := Option.some 77, op := Go.Op.extract (Go.Operand.tmp 67) 0, type := 30, pos := "exact.go:4028", after := #[{ on := 9, ground := Go.Ground.data }], guard := Option.none }) (v := ?_) rfl (by kernel_rfl) (by kernel_rfl) (by kernel_rfl) (fun _ _ _ h => h) (Or.inl ⟨by rfl, ?_⟩) hHeld ?_
          rotate_left
          · intro w hSw
            try dsimp only at hSw
            go_simp
            try (with_reducible rfl)
          simp only [Act.put, List.setIfInBounds_toArray, List.set_cons_zero, List.set_cons_succ]
          refine wpAnyH_take (i := 11) (oi := { dst := Option.some 78, op := Go.Op.extract (Go.Operand.tmp 67) 1, type := 3, pos := "exact.go:4028", after := #[{ on := 9, ground := Go.Ground.data }, { on := 13, ground := Go.Ground.gcOnly Go.Departure.lateStores }], guard := Option.none }) (v := ?_) rfl (by kernel_rfl) (by kernel_rfl) (by kernel_rfl) (fun _ _ _ h => h) (Or.inl ⟨by rfl, ?_⟩) hHeld ?_
          rotate_left
          · intro w hSw
            try dsimp only at hSw
            go_simp
            try (with_reducible rfl)
          simp only [Act.put, List.setIfInBounds_toArray, List.set_cons_zero, List.set_cons_succ]
          refine wpAnyH_ready (rs := [12]) (by kernel_rfl) (by decide) ?_
          refine AllReadyH.cons (o := { dst := Option.some 19, op := Go.Op.alloc 30, type := 0, pos := "exact.go:4028", after := #[], guard := Option.none }) rfl (fun K hK => ?_) AllReadyH.nil
          have bA_91 : Below v89.heap.size v89 (v89.alloc (.cells [.int .i64 0, .int .i64 0, .string ⟨#[]⟩, .string ⟨#[]⟩, .string ⟨#[]⟩, .string ⟨#[]⟩, .slice none 0 0].toArray 30)) := below_one _ _
          have RR_91 : Hid (Rr v89 v87.heap.size v89.heap.size v89.heap.size u_89 gl) := OwnV.rr ROW_89.out (Nat.le_refl _) (fun b h1 h2 => by omega)
          have HB_92 : Hid (Below wG.heap.size wG (v89.alloc (.cells [.int .i64 0, .int .i64 0, .string ⟨#[]⟩, .string ⟨#[]⟩, .string ⟨#[]⟩, .string ⟨#[]⟩, .slice none 0 0].toArray 30))) := HB_90.out.trans (bA_91.mono HB_90.out.size)
          have RR_92 : Hid (Rr (v89.alloc (.cells [.int .i64 0, .int .i64 0, .string ⟨#[]⟩, .string ⟨#[]⟩, .string ⟨#[]⟩, .string ⟨#[]⟩, .slice none 0 0].toArray 30)) v87.heap.size v89.heap.size v89.heap.size u_89 gl) := RR_91.out.below bA_91
          have K_91 : Hid (Blk (v89.alloc (.cells [.int .i64 0, .int .i64 0, .string ⟨#[]⟩, .string ⟨#[]⟩, .string ⟨#[]⟩, .string ⟨#[]⟩, .slice none 0 0].toArray 30)) v89.heap.size [.int .i64 0, .int .i64 0, .string ⟨#[]⟩, .string ⟨#[]⟩, .string ⟨#[]⟩, .string ⟨#[]⟩, .slice none 0 0] 30) := blk_new v89 _ _
          have hG_91 : wG.heap.size ≤ v89.heap.size := HB_90.out.size
          go_simp
          generalize v89.alloc (Obj.cells [.int .i64 0, .int .i64 0, .string ⟨#[]⟩, .string ⟨#[]⟩, .string ⟨#[]⟩, .string ⟨#[]⟩, .slice none 0 0].toArray 30) = wz_91 at *
          refine hK.out _ _ (⟨hflat _ (HA_84.out.step HB_92.out), ⟨(K1_84.out.below HB_92.out K1_84.out.lt).cell 0 rfl, (K1_84.out.below HB_92.out K1_84.out.lt).cell 1 rfl, (K1_84.out.below HB_92.out K1_84.out.lt).cell 2 rfl, (K1_84.out.below HB_92.out K1_84.out.lt).cell 3 rfl, (K1_84.out.below HB_92.out K1_84.out.lt).cell 4 rfl, (K1_84.out.below HB_92.out K1_84.out.lt).cell 5 rfl, (K1_84.out.below HB_92.out K1_84.out.lt).cell 6 rfl⟩, ⟨(K4.out.below HB_92.out K4.out.lt).cell 0 rfl, (K4.out.below HB_92.out K4.out.lt).cell 1 rfl, (K4.out.below HB_92.out K4.out.lt).cell 2 rfl, (K4.out.below HB_92.out K4.out.lt).cell 3 rfl⟩⟩) (fun hHeld => ?_)
          clear hK K
          try simp only [Act.put, List.setIfInBounds_toArray, List.set_cons_zero, List.set_cons_succ]
          refine wpAnyH_ready (rs := [13]) (by kernel_rfl) (by decide) ?_
          refine AllReadyH.cons (o := { dst := Option.none, op := Go.Op.store 30 (Go.Operand.tmp 19) (Go.Operand.tmp 77), type := 0, pos := "exact.go:4028", after := #[{ on := 12, ground := Go.Ground.data }, { on := 10, ground := Go.Ground.data }, { on := 8, ground := Go.Ground.chain }, { on := 0, ground := Go.Ground.phase }, { on := 1, ground := Go.Ground.phase }, { on := 2, ground := Go.Ground.phase }, { on := 3, ground := Go.Ground.phase }, { on := 4, ground := Go.Ground.phase }, { on := 5, ground := Go.Ground.phase }, { on := 6, ground := Go.Ground.phase }, { on := 7, ground := Go.Ground.phase }, { on := 8, ground := Go.Ground.phase }, { on := 9, ground := Go.Ground.phase }, { on := 10, ground := Go.Ground.phase }, { on := 11, ground := Go.Ground.textOnly Go.Departure.lateStores }, { on := 12, ground := Go.Ground.phase }], guard := Option.none }) rfl (fun K hK => ?_) AllReadyH.nil
          have RS_93 := RR_92.out
          have RF_93 : Hid (Rr (((((((wz_91.setCell ⟨v89.heap.size, 0, none⟩ (.int .i64 gh)).setCell ⟨v89.heap.size, 1, none⟩ (.int .i64 gt)).setCell ⟨v89.heap.size, 2, none⟩ (.string ga)).setCell ⟨v89.heap.size, 3, none⟩ (.string gv)).setCell ⟨v89.heap.size, 4, none⟩ (.string gn)).setCell ⟨v89.heap.size, 5, none⟩ (.string gd)).setCell ⟨v89.heap.size, 6, none⟩ (.slice u_89 mg cu_89)) wG.heap.size v89.heap.size v89.heap.size u_89 gl) := (((((((RS_93.set 0 _).set 1 _).set 2 _).set 3 _).set 4 _).set 5 _).set 6 _).low (by omega)
          have KF_93 : Hid (Blk (((((((wz_91.setCell ⟨v89.heap.size, 0, none⟩ (.int .i64 gh)).setCell ⟨v89.heap.size, 1, none⟩ (.int .i64 gt)).setCell ⟨v89.heap.size, 2, none⟩ (.string ga)).setCell ⟨v89.heap.size, 3, none⟩ (.string gv)).setCell ⟨v89.heap.size, 4, none⟩ (.string gn)).setCell ⟨v89.heap.size, 5, none⟩ (.string gd)).setCell ⟨v89.heap.size, 6, none⟩ (.slice u_89 mg cu_89)) v89.heap.size [.int .i64 gh, .int .i64 gt, .string ga, .string gv, .string gn, .string gd, .slice u_89 mg cu_89] 30) := (((((((K_91.out.set 0 _).set 1 _).set 2 _).set 3 _).set 4 _).set 5 _).set 6 _)
          have HB_93 : Hid (Below wG.heap.size wG (((((((wz_91.setCell ⟨v89.heap.size, 0, none⟩ (.int .i64 gh)).setCell ⟨v89.heap.size, 1, none⟩ (.int .i64 gt)).setCell ⟨v89.heap.size, 2, none⟩ (.string ga)).setCell ⟨v89.heap.size, 3, none⟩ (.string gv)).setCell ⟨v89.heap.size, 4, none⟩ (.string gn)).setCell ⟨v89.heap.size, 5, none⟩ (.string gd)).setCell ⟨v89.heap.size, 6, none⟩ (.slice u_89 mg cu_89))) := (((((((HB_92.out.setCell (p := ⟨v89.heap.size, 0, none⟩) hG_91 _).setCell (p := ⟨v89.heap.size, 1, none⟩) hG_91 _).setCell (p := ⟨v89.heap.size, 2, none⟩) hG_91 _).setCell (p := ⟨v89.heap.size, 3, none⟩) hG_91 _).setCell (p := ⟨v89.heap.size, 4, none⟩) hG_91 _).setCell (p := ⟨v89.heap.size, 5, none⟩) hG_91 _).setCell (p := ⟨v89.heap.size, 6, none⟩) hG_91 _)
          have p_93_0 := K_91.out.cell 0 rfl
          have p_93_1 := K_91.out.cell 1 rfl
          have p_93_2 := K_91.out.cell 2 rfl
          have p_93_3 := K_91.out.cell 3 rfl
          have p_93_4 := K_91.out.cell 4 rfl
          have p_93_5 := K_91.out.cell 5 rfl
          have p_93_6 := K_91.out.cell 6 rfl
          have pf_93 := fun q => K_91.out.frozen q
          go_simp
          refine hK.out _ _ (⟨hflat _ (HA_84.out.step HB_93.out), ⟨(K1_84.out.below HB_93.out K1_84.out.lt).cell 0 rfl, (K1_84.out.below HB_93.out K1_84.out.lt).cell 1 rfl, (K1_84.out.below HB_93.out K1_84.out.lt).cell 2 rfl, (K1_84.out.below HB_93.out K1_84.out.lt).cell 3 rfl, (K1_84.out.below HB_93.out K1_84.out.lt).cell 4 rfl, (K1_84.out.below HB_93.out K1_84.out.lt).cell 5 rfl, (K1_84.out.below HB_93.out K1_84.out.lt).cell 6 rfl⟩, ⟨(K4.out.below HB_93.out K4.out.lt).cell 0 rfl, (K4.out.below HB_93.out K4.out.lt).cell 1 rfl, (K4.out.below HB_93.out K4.out.lt).cell 2 rfl, (K4.out.below HB_93.out K4.out.lt).cell 3 rfl⟩⟩) (fun hHeld => ?_)
          clear hK K
          try simp only [Act.put, List.setIfInBounds_toArray, List.set_cons_zero, List.set_cons_succ]
          refine wpAnyH_take (i := 14) (oi := { dst := Option.some 20, op := Go.Op.assign (Go.Operand.tmp 78), type := 3, pos := "exact.go:4028", after := #[{ on := 11, ground := Go.Ground.data }, { on := 13, ground := Go.Ground.chain }, { on := 0, ground := Go.Ground.phase }, { on := 1, ground := Go.Ground.phase }, { on := 2, ground := Go.Ground.phase }, { on := 3, ground := Go.Ground.phase }, { on := 4, ground := Go.Ground.phase }, { on := 5, ground := Go.Ground.phase }, { on := 6, ground := Go.Ground.phase }, { on := 7, ground := Go.Ground.phase }, { on := 8, ground := Go.Ground.phase }, { on := 9, ground := Go.Ground.phase }, { on := 10, ground := Go.Ground.phase }, { on := 11, ground := Go.Ground.phase }, { on := 12, ground := Go.Ground.phase }, { on := 13, ground := Go.Ground.phase }], guard := Option.none }) (v := ?_) rfl (by kernel_rfl) (by kernel_rfl) (by kernel_rfl) (fun _ _ _ h => h) (Or.inl ⟨by rfl, ?_⟩) hHeld ?_
          rotate_left
          · intro w hSw
            try dsimp only at hSw
            go_simp
            try (with_reducible rfl)
          simp only [Act.put, List.setIfInBounds_toArray, List.set_cons_zero, List.set_cons_succ]
          refine wpAnyH_done (by kernel_rfl) ?_ _
          go_wp2_with fail
          go_meet
          exact ⟨v89.heap.size, u_89, cu_89, rfl, rfl, ⟨⟨hG_91, KF_93.out⟩, RF_93.out.top, HB_93.out⟩⟩
        · have bA_94 : Below v87.heap.size v87 (v87.alloc (.cells [.int .i64 0, .int .i64 0, .string ⟨#[]⟩, .string ⟨#[]⟩, .string ⟨#[]⟩, .string ⟨#[]⟩, .slice none 0 0].toArray 30)) := below_one _ _
          have HB_95 : Hid (Below wG.heap.size wG (v87.alloc (.cells [.int .i64 0, .int .i64 0, .string ⟨#[]⟩, .string ⟨#[]⟩, .string ⟨#[]⟩, .string ⟨#[]⟩, .slice none 0 0].toArray 30))) := HB_88.out.trans (bA_94.mono HB_88.out.size)
          have K_94 : Hid (Blk (v87.alloc (.cells [.int .i64 0, .int .i64 0, .string ⟨#[]⟩, .string ⟨#[]⟩, .string ⟨#[]⟩, .string ⟨#[]⟩, .slice none 0 0].toArray 30)) v87.heap.size [.int .i64 0, .int .i64 0, .string ⟨#[]⟩, .string ⟨#[]⟩, .string ⟨#[]⟩, .string ⟨#[]⟩, .slice none 0 0] 30) := blk_new v87 _ _
          have hG_94 : wG.heap.size ≤ v87.heap.size := HB_88.out.size
          go_simp
          generalize v87.alloc (Obj.cells [.int .i64 0, .int .i64 0, .string ⟨#[]⟩, .string ⟨#[]⟩, .string ⟨#[]⟩, .string ⟨#[]⟩, .slice none 0 0].toArray 30) = wz_94 at *
          refine hK.out _ _ (⟨hflat _ (HA_84.out.step HB_95.out), ⟨(K1_84.out.below HB_95.out K1_84.out.lt).cell 0 rfl, (K1_84.out.below HB_95.out K1_84.out.lt).cell 1 rfl, (K1_84.out.below HB_95.out K1_84.out.lt).cell 2 rfl, (K1_84.out.below HB_95.out K1_84.out.lt).cell 3 rfl, (K1_84.out.below HB_95.out K1_84.out.lt).cell 4 rfl, (K1_84.out.below HB_95.out K1_84.out.lt).cell 5 rfl, (K1_84.out.below HB_95.out K1_84.out.lt).cell 6 rfl⟩, ⟨(K4.out.below HB_95.out K4.out.lt).cell 0 rfl, (K4.out.below HB_95.out K4.out.lt).cell 1 rfl, (K4.out.below HB_95.out K4.out.lt).cell 2 rfl, (K4.out.below HB_95.out K4.out.lt).cell 3 rfl⟩⟩) (fun hHeld => ?_)
          clear hK K
          try simp only [Act.put, List.setIfInBounds_toArray, List.set_cons_zero, List.set_cons_succ]
          refine wpAnyH_ready (rs := [8]) (by kernel_rfl) (by decide) ?_
          refine AllReadyH.cons (o := { dst := Option.some 76, op := Go.Op.call { callee := Go.Callee.value (Go.Operand.func 7), args := #[Go.Operand.tmp 69, Go.Operand.tmp 70, Go.Operand.tmp 72, Go.Operand.tmp 73, Go.Operand.tmp 74, Go.Operand.tmp 75], argTypes := #[25, 30, 27, 28, 33, 3] }, type := 36, pos := "exact.go:4028", after := #[{ on := 1, ground := Go.Ground.data }, { on := 2, ground := Go.Ground.data }, { on := 4, ground := Go.Ground.data }, { on := 5, ground := Go.Ground.data }, { on := 6, ground := Go.Ground.data }, { on := 7, ground := Go.Ground.data }, { on := 4, ground := Go.Ground.chain }], guard := Option.none }) rfl (fun K hK => ?_) AllReadyH.nil
          go_simp
          go_at_call 7
          refine (kIc u1 u3 u4 h20 hm20 _ (R1_84.out.below HB_95.out).o HN1.out (R3_84.out.below HB_95.out).o HN3.out (Cop.below C4.out HB_95.out).o (HT.out.below (HA_84.out.step HB_95.out).2.2.2.2 HT.out.pos)).mono ?_
          rintro e v96 ⟨u_96, cu_96, rfl, ROW_96, b96⟩
          have HB_97 : Hid (Below wG.heap.size wG v96) := HB_95.out.trans (b96.mono HB_95.out.size)
          have K_97 : Hid (Blk v96 v87.heap.size [.int .i64 0, .int .i64 0, .string ⟨#[]⟩, .string ⟨#[]⟩, .string ⟨#[]⟩, .string ⟨#[]⟩, .slice none 0 0] 30) := K_94.out.below b96 K_94.out.lt
          have hbs_96 : wG.heap.size ≤ wz_94.heap.size := HB_95.out.size
          clear b96
          have hGb_96 : v87.heap.size < wz_94.heap.size := K_94.out.lt
          refine hK.out _ _ (⟨hflat _ (HA_84.out.step HB_97.out), ⟨(K1_84.out.below HB_97.out K1_84.out.lt).cell 0 rfl, (K1_84.out.below HB_97.out K1_84.out.lt).cell 1 rfl, (K1_84.out.below HB_97.out K1_84.out.lt).cell 2 rfl, (K1_84.out.below HB_97.out K1_84.out.lt).cell 3 rfl, (K1_84.out.below HB_97.out K1_84.out.lt).cell 4 rfl, (K1_84.out.below HB_97.out K1_84.out.lt).cell 5 rfl, (K1_84.out.below HB_97.out K1_84.out.lt).cell 6 rfl⟩, ⟨(K4.out.below HB_97.out K4.out.lt).cell 0 rfl, (K4.out.below HB_97.out K4.out.lt).cell 1 rfl, (K4.out.below HB_97.out K4.out.lt).cell 2 rfl, (K4.out.below HB_97.out K4.out.lt).cell 3 rfl⟩⟩) (fun hHeld => ?_)
          clear hK K
          try simp only [Act.put, List.setIfInBounds_toArray, List.set_cons_zero, List.set_cons_succ]
          refine wpAnyH_take (i := 9) (oi := { dst := Option.some 67, op := Go.Op.move (Go.Operand.tmp 76), type := 36, pos := "exact.go:4028", after := #[{ on := 8, ground := Go.Ground.data }], guard := Option.none }) (v := ?_) rfl (by kernel_rfl) (by kernel_rfl) (by kernel_rfl) (fun _ _ _ h => h) (Or.inl ⟨by rfl, ?_⟩) hHeld ?_
          rotate_left
          · intro w hSw
            try dsimp only at hSw
            go_simp
            try (with_reducible rfl)
          simp only [Act.put, List.setIfInBounds_toArray, List.set_cons_zero, List.set_cons_succ]
          refine wpAnyH_take (i := 10) (oi := { dst := Option.some 77, op := Go.Op.extract (Go.Operand.tmp 67) 0, type := 30, pos := "exact.go:4028", after := #[{ on := 9, ground := Go.Ground.data }], guard := Option.none }) (v := ?_) rfl (by kernel_rfl) (by kernel_rfl) (by kernel_rfl) (fun _ _ _ h => h) (Or.inl ⟨by rfl, ?_⟩) hHeld ?_
          rotate_left
          · intro w hSw
            try dsimp only at hSw
            go_simp
            try (with_reducible rfl)
          simp only [Act.put, List.setIfInBounds_toArray, List.set_cons_zero, List.set_cons_succ]
          refine wpAnyH_take (i := 11) (oi := { dst := Option.some 78, op := Go.Op.extract (Go.Operand.tmp 67) 1, type := 3, pos := "exact.go:4028", after := #[{ on := 9, ground := Go.Ground.data }, { on := 13, ground := Go.Ground.gcOnly Go.Departure.lateStores }], guard := Option.none }) (v := ?_) rfl (by kernel_rfl) (by kernel_rfl) (by kernel_rfl) (fun _ _ _ h => h) (Or.inl ⟨by rfl, ?_⟩) hHeld ?_
          rotate_left
          · intro w hSw
            try dsimp only at hSw
            go_simp
            try (with_reducible rfl)
          simp only [Act.put, List.setIfInBounds_toArray, List.set_cons_zero, List.set_cons_succ]
          refine wpAnyH_ready (rs := [13]) (by kernel_rfl) (by decide) ?_
          refine AllReadyH.cons (o := { dst := Option.none, op := Go.Op.store 30 (Go.Operand.tmp 19) (Go.Operand.tmp 77), type := 0, pos := "exact.go:4028", after := #[{ on := 12, ground := Go.Ground.data }, { on := 10, ground := Go.Ground.data }, { on := 8, ground := Go.Ground.chain }, { on := 0, ground := Go.Ground.phase }, { on := 1, ground := Go.Ground.phase }, { on := 2, ground := Go.Ground.phase }, { on := 3, ground := Go.Ground.phase }, { on := 4, ground := Go.Ground.phase }, { on := 5, ground := Go.Ground.phase }, { on := 6, ground := Go.Ground.phase }, { on := 7, ground := Go.Ground.phase }, { on := 8, ground := Go.Ground.phase }, { on := 9, ground := Go.Ground.phase }, { on := 10, ground := Go.Ground.phase }, { on := 11, ground := Go.Ground.textOnly Go.Departure.lateStores }, { on := 12, ground := Go.Ground.phase }], guard := Option.none }) rfl (fun K hK => ?_) AllReadyH.nil
          have RS_98 : Rr v96 wz_94.heap.size v96.heap.size v87.heap.size u_96 gl := OwnV.rr ROW_96.out (Nat.le_refl _) (fun b h1 h2 => by omega)
          have RF_98 : Hid (Rr (((((((v96.setCell ⟨v87.heap.size, 0, none⟩ (.int .i64 gh)).setCell ⟨v87.heap.size, 1, none⟩ (.int .i64 gt)).setCell ⟨v87.heap.size, 2, none⟩ (.string ga)).setCell ⟨v87.heap.size, 3, none⟩ (.string gv)).setCell ⟨v87.heap.size, 4, none⟩ (.string gn)).setCell ⟨v87.heap.size, 5, none⟩ (.string gd)).setCell ⟨v87.heap.size, 6, none⟩ (.slice u_96 mg cu_96)) wG.heap.size v96.heap.size v87.heap.size u_96 gl) := (((((((RS_98.set 0 _).set 1 _).set 2 _).set 3 _).set 4 _).set 5 _).set 6 _).low (by omega)
          have KF_98 : Hid (Blk (((((((v96.setCell ⟨v87.heap.size, 0, none⟩ (.int .i64 gh)).setCell ⟨v87.heap.size, 1, none⟩ (.int .i64 gt)).setCell ⟨v87.heap.size, 2, none⟩ (.string ga)).setCell ⟨v87.heap.size, 3, none⟩ (.string gv)).setCell ⟨v87.heap.size, 4, none⟩ (.string gn)).setCell ⟨v87.heap.size, 5, none⟩ (.string gd)).setCell ⟨v87.heap.size, 6, none⟩ (.slice u_96 mg cu_96)) v87.heap.size [.int .i64 gh, .int .i64 gt, .string ga, .string gv, .string gn, .string gd, .slice u_96 mg cu_96] 30) := (((((((K_97.out.set 0 _).set 1 _).set 2 _).set 3 _).set 4 _).set 5 _).set 6 _)
          have HB_98 : Hid (Below wG.heap.size wG (((((((v96.setCell ⟨v87.heap.size, 0, none⟩ (.int .i64 gh)).setCell ⟨v87.heap.size, 1, none⟩ (.int .i64 gt)).setCell ⟨v87.heap.size, 2, none⟩ (.string ga)).setCell ⟨v87.heap.size, 3, none⟩ (.string gv)).setCell ⟨v87.heap.size, 4, none⟩ (.string gn)).setCell ⟨v87.heap.size, 5, none⟩ (.string gd)).setCell ⟨v87.heap.size, 6, none⟩ (.slice u_96 mg cu_96))) := (((((((HB_97.out.setCell (p := ⟨v87.heap.size, 0, none⟩) hG_94 _).setCell (p := ⟨v87.heap.size, 1, none⟩) hG_94 _).setCell (p := ⟨v87.heap.size, 2, none⟩) hG_94 _).setCell (p := ⟨v87.heap.size, 3, none⟩) hG_94 _).setCell (p := ⟨v87.heap.size, 4, none⟩) hG_94 _).setCell (p := ⟨v87.heap.size, 5, none⟩) hG_94 _).setCell (p := ⟨v87.heap.size, 6, none⟩) hG_94 _)
          have p_98_0 := K_97.out.cell 0 rfl
          have p_98_1 := K_97.out.cell 1 rfl
          have p_98_2 := K_97.out.cell 2 rfl
          have p_98_3 := K_97.out.cell 3 rfl
          have p_98_4 := K_97.out.cell 4 rfl
          have p_98_5 := K_97.out.cell 5 rfl
          have p_98_6 := K_97.out.cell 6 rfl
          have pf_98 := fun q => K_97.out.frozen q
          go_simp
          refine hK.out _ _ (⟨hflat _ (HA_84.out.step HB_98.out), ⟨(K1_84.out.below HB_98.out K1_84.out.lt).cell 0 rfl, (K1_84.out.below HB_98.out K1_84.out.lt).cell 1 rfl, (K1_84.out.below HB_98.out K1_84.out.lt).cell 2 rfl, (K1_84.out.below HB_98.out K1_84.out.lt).cell 3 rfl, (K1_84.out.below HB_98.out K1_84.out.lt).cell 4 rfl, (K1_84.out.below HB_98.out K1_84.out.lt).cell 5 rfl, (K1_84.out.below HB_98.out K1_84.out.lt).cell 6 rfl⟩, ⟨(K4.out.below HB_98.out K4.out.lt).cell 0 rfl, (K4.out.below HB_98.out K4.out.lt).cell 1 rfl, (K4.out.below HB_98.out K4.out.lt).cell 2 rfl, (K4.out.below HB_98.out K4.out.lt).cell 3 rfl⟩⟩) (fun hHeld => ?_)
          clear hK K
          try simp only [Act.put, List.setIfInBounds_toArray, List.set_cons_zero, List.set_cons_succ]
          refine wpAnyH_take (i := 14) (oi := { dst := Option.some 20, op := Go.Op.assign (Go.Operand.tmp 78), type := 3, pos := "exact.go:4028", after := #[{ on := 11, ground := Go.Ground.data }, { on := 13, ground := Go.Ground.chain }, { on := 0, ground := Go.Ground.phase }, { on := 1, ground := Go.Ground.phase }, { on := 2, ground := Go.Ground.phase }, { on := 3, ground := Go.Ground.phase }, { on := 4, ground := Go.Ground.phase }, { on := 5, ground := Go.Ground.phase }, { on := 6, ground := Go.Ground.phase }, { on := 7, ground := Go.Ground.phase }, { on := 8, ground := Go.Ground.phase }, { on := 9, ground := Go.Ground.phase }, { on := 10, ground := Go.Ground.phase }, { on := 11, ground := Go.Ground.phase }, { on := 12, ground := Go.Ground.phase }, { on := 13, ground := Go.Ground.phase }], guard := Option.none }) (v := ?_) rfl (by kernel_rfl) (by kernel_rfl) (by kernel_rfl) (fun _ _ _ h => h) (Or.inl ⟨by rfl, ?_⟩) hHeld ?_
          rotate_left
          · intro w hSw
            try dsimp only at hSw
            go_simp
            try (with_reducible rfl)
          simp only [Act.put, List.setIfInBounds_toArray, List.set_cons_zero, List.set_cons_succ]
          refine wpAnyH_done (by kernel_rfl) ?_ _
          go_wp2_with fail
          go_meet
          exact ⟨v87.heap.size, u_96, cu_96, rfl, rfl, ⟨⟨hG_94, KF_98.out⟩, RF_98.out.top, HB_98.out⟩⟩
      · have bA_99 : Below v85.heap.size v85 (v85.alloc (.cells [.int .i64 0, .int .i64 0, .string ⟨#[]⟩, .string ⟨#[]⟩, .string ⟨#[]⟩, .string ⟨#[]⟩, .slice none 0 0].toArray 30)) := below_one _ _
        have HB_100 : Hid (Below wG.heap.size wG (v85.alloc (.cells [.int .i64 0, .int .i64 0, .string ⟨#[]⟩, .string ⟨#[]⟩, .string ⟨#[]⟩, .string ⟨#[]⟩, .slice none 0 0].toArray 30))) := HB_86.out.trans (bA_99.mono HB_86.out.size)
        have K_99 : Hid (Blk (v85.alloc (.cells [.int .i64 0, .int .i64 0, .string ⟨#[]⟩, .string ⟨#[]⟩, .string ⟨#[]⟩, .string ⟨#[]⟩, .slice none 0 0].toArray 30)) v85.heap.size [.int .i64 0, .int .i64 0, .string ⟨#[]⟩, .string ⟨#[]⟩, .string ⟨#[]⟩, .string ⟨#[]⟩, .slice none 0 0] 30) := blk_new v85 _ _
        have hG_99 : wG.heap.size ≤ v85.heap.size := HB_86.out.size
        go_simp
        generalize v85.alloc (Obj.cells [.int .i64 0, .int .i64 0, .string ⟨#[]⟩, .string ⟨#[]⟩, .string ⟨#[]⟩, .string ⟨#[]⟩, .slice none 0 0].toArray 30) = wz_99 at *
        refine hK.out _ _ (⟨hflat _ (HA_84.out.step HB_100.out), ⟨(K1_84.out.below HB_100.out K1_84.out.lt).cell 0 rfl, (K1_84.out.below HB_100.out K1_84.out.lt).cell 1 rfl, (K1_84.out.below HB_100.out K1_84.out.lt).cell 2 rfl, (K1_84.out.below HB_100.out K1_84.out.lt).cell 3 rfl, (K1_84.out.below HB_100.out K1_84.out.lt).cell 4 rfl, (K1_84.out.below HB_100.out K1_84.out.lt).cell 5 rfl, (K1_84.out.below HB_100.out K1_84.out.lt).cell 6 rfl⟩, ⟨(K4.out.below HB_100.out K4.out.lt).cell 0 rfl, (K4.out.below HB_100.out K4.out.lt).cell 1 rfl, (K4.out.below HB_100.out K4.out.lt).cell 2 rfl, (K4.out.below HB_100.out K4.out.lt).cell 3 rfl⟩⟩) (fun hHeld => ?_)
        clear hK K
        try simp only [Act.put, List.setIfInBounds_toArray, List.set_cons_zero, List.set_cons_succ]
        refine wpAnyH_ready (rs := [4]) (by kernel_rfl) (by decide) ?_
        refine AllReadyH.cons (o := { dst := Option.some 72, op := Go.Op.call { callee := Go.Callee.value (Go.Operand.func 20), args := #[Go.Operand.tmp 71], argTypes := #[45] }, type := 27, pos := "exact.go:4028", after := #[{ on := 3, ground := Go.Ground.data }, { on := 1, ground := Go.Ground.chain }], guard := Option.none }) rfl (fun K hK => ?_) AllReadyH.nil
        go_simp
        go_at_call 20
        refine (kX _).mono ?_
        rintro e v101 ⟨rfl, b101⟩
        have HB_102 : Hid (Below wG.heap.size wG v101) := HB_100.out.trans (b101.mono HB_100.out.size)
        have K_102 : Hid (Blk v101 v85.heap.size [.int .i64 0, .int .i64 0, .string ⟨#[]⟩, .string ⟨#[]⟩, .string ⟨#[]⟩, .string ⟨#[]⟩, .slice none 0 0] 30) := K_99.out.below b101 K_99.out.lt
        clear b101
        refine hK.out _ _ (⟨hflat _ (HA_84.out.step HB_102.out), ⟨(K1_84.out.below HB_102.out K1_84.out.lt).cell 0 rfl, (K1_84.out.below HB_102.out K1_84.out.lt).cell 1 rfl, (K1_84.out.below HB_102.out K1_84.out.lt).cell 2 rfl, (K1_84.out.below HB_102.out K1_84.out.lt).cell 3 rfl, (K1_84.out.below HB_102.out K1_84.out.lt).cell 4 rfl, (K1_84.out.below HB_102.out K1_84.out.lt).cell 5 rfl, (K1_84.out.below HB_102.out K1_84.out.lt).cell 6 rfl⟩, ⟨(K4.out.below HB_102.out K4.out.lt).cell 0 rfl, (K4.out.below HB_102.out K4.out.lt).cell 1 rfl, (K4.out.below HB_102.out K4.out.lt).cell 2 rfl, (K4.out.below HB_102.out K4.out.lt).cell 3 rfl⟩⟩) (fun hHeld => ?_)
        clear hK K
        try simp only [Act.put, List.setIfInBounds_toArray, List.set_cons_zero, List.set_cons_succ]
        refine wpAnyH_ready (rs := [8]) (by kernel_rfl) (by decide) ?_
        refine AllReadyH.cons (o := { dst := Option.some 76, op := Go.Op.call { callee := Go.Callee.value (Go.Operand.func 7), args := #[Go.Operand.tmp 69, Go.Operand.tmp 70, Go.Operand.tmp 72, Go.Operand.tmp 73, Go.Operand.tmp 74, Go.Operand.tmp 75], argTypes := #[25, 30, 27, 28, 33, 3] }, type := 36, pos := "exact.go:4028", after := #[{ on := 1, ground := Go.Ground.data }, { on := 2, ground := Go.Ground.data }, { on := 4, ground := Go.Ground.data }, { on := 5, ground := Go.Ground.data }, { on := 6, ground := Go.Ground.data }, { on := 7, ground := Go.Ground.data }, { on := 4, ground := Go.Ground.chain }], guard := Option.none }) rfl (fun K hK => ?_) AllReadyH.nil
        go_simp
        go_at_call 7
        refine (kIc u1 u3 u4 h20 hm20 _ (R1_84.out.below HB_102.out).o HN1.out (R3_84.out.below HB_102.out).o HN3.out (Cop.below C4.out HB_102.out).o (HT.out.below (HA_84.out.step HB_102.out).2.2.2.2 HT.out.pos)).mono ?_
        rintro e v103 ⟨u_103, cu_103, rfl, ROW_103, b103⟩
        have HB_104 : Hid (Below wG.heap.size wG v103) := HB_102.out.trans (b103.mono HB_102.out.size)
        have K_104 : Hid (Blk v103 v85.heap.size [.int .i64 0, .int .i64 0, .string ⟨#[]⟩, .string ⟨#[]⟩, .string ⟨#[]⟩, .string ⟨#[]⟩, .slice none 0 0] 30) := K_102.out.below b103 K_102.out.lt
        have hbs_103 : wG.heap.size ≤ v101.heap.size := HB_102.out.size
        clear b103
        have hGb_103 : v85.heap.size < v101.heap.size := K_102.out.lt
        refine hK.out _ _ (⟨hflat _ (HA_84.out.step HB_104.out), ⟨(K1_84.out.below HB_104.out K1_84.out.lt).cell 0 rfl, (K1_84.out.below HB_104.out K1_84.out.lt).cell 1 rfl, (K1_84.out.below HB_104.out K1_84.out.lt).cell 2 rfl, (K1_84.out.below HB_104.out K1_84.out.lt).cell 3 rfl, (K1_84.out.below HB_104.out K1_84.out.lt).cell 4 rfl, (K1_84.out.below HB_104.out K1_84.out.lt).cell 5 rfl, (K1_84.out.below HB_104.out K1_84.out.lt).cell 6 rfl⟩, ⟨(K4.out.below HB_104.out K4.out.lt).cell 0 rfl, (K4.out.below HB_104.out K4.out.lt).cell 1 rfl, (K4.out.below HB_104.out K4.out.lt).cell 2 rfl, (K4.out.below HB_104.out K4.out.lt).cell 3 rfl⟩⟩) (fun hHeld => ?_)
        clear hK K
        try simp only [Act.put, List.setIfInBounds_toArray, List.set_cons_zero, List.set_cons_succ]
        refine wpAnyH_take (i := 9) (oi := { dst := Option.some 67, op := Go.Op.move (Go.Operand.tmp 76), type := 36, pos := "exact.go:4028", after := #[{ on := 8, ground := Go.Ground.data }], guard := Option.none }) (v := ?_) rfl (by kernel_rfl) (by kernel_rfl) (by kernel_rfl) (fun _ _ _ h => h) (Or.inl ⟨by rfl, ?_⟩) hHeld ?_
        rotate_left
        · intro w hSw
          try dsimp only at hSw
          go_simp
          try (with_reducible rfl)
        simp only [Act.put, List.setIfInBounds_toArray, List.set_cons_zero, List.set_cons_succ]
        refine wpAnyH_take (i := 10) (oi := { dst := Option.some 77, op := Go.Op.extract (Go.Operand.tmp 67) 0, type := 30, pos := "exact.go:4028", after := #[{ on := 9, ground := Go.Ground.data }], guard := Option.none }) (v := ?_) rfl (by kernel_rfl) (by kernel_rfl) (by kernel_rfl) (fun _ _ _ h => h) (Or.inl ⟨by rfl, ?_⟩) hHeld ?_
        rotate_left
        · intro w hSw
          try dsimp only at hSw
          go_simp
          try (with_reducible rfl)
        simp only [Act.put, List.setIfInBounds_toArray, List.set_cons_zero, List.set_cons_succ]
        refine wpAnyH_take (i := 11) (oi := { dst := Option.some 78, op := Go.Op.extract (Go.Operand.tmp 67) 1, type := 3, pos := "exact.go:4028", after := #[{ on := 9, ground := Go.Ground.data }, { on := 13, ground := Go.Ground.gcOnly Go.Departure.lateStores }], guard := Option.none }) (v := ?_) rfl (by kernel_rfl) (by kernel_rfl) (by kernel_rfl) (fun _ _ _ h => h) (Or.inl ⟨by rfl, ?_⟩) hHeld ?_
        rotate_left
        · intro w hSw
          try dsimp only at hSw
          go_simp
          try (with_reducible rfl)
        simp only [Act.put, List.setIfInBounds_toArray, List.set_cons_zero, List.set_cons_succ]
        refine wpAnyH_ready (rs := [13]) (by kernel_rfl) (by decide) ?_
        refine AllReadyH.cons (o := { dst := Option.none, op := Go.Op.store 30 (Go.Operand.tmp 19) (Go.Operand.tmp 77), type := 0, pos := "exact.go:4028", after := #[{ on := 12, ground := Go.Ground.data }, { on := 10, ground := Go.Ground.data }, { on := 8, ground := Go.Ground.chain }, { on := 0, ground := Go.Ground.phase }, { on := 1, ground := Go.Ground.phase }, { on := 2, ground := Go.Ground.phase }, { on := 3, ground := Go.Ground.phase }, { on := 4, ground := Go.Ground.phase }, { on := 5, ground := Go.Ground.phase }, { on := 6, ground := Go.Ground.phase }, { on := 7, ground := Go.Ground.phase }, { on := 8, ground := Go.Ground.phase }, { on := 9, ground := Go.Ground.phase }, { on := 10, ground := Go.Ground.phase }, { on := 11, ground := Go.Ground.textOnly Go.Departure.lateStores }, { on := 12, ground := Go.Ground.phase }], guard := Option.none }) rfl (fun K hK => ?_) AllReadyH.nil
        have RS_105 : Rr v103 v101.heap.size v103.heap.size v85.heap.size u_103 gl := OwnV.rr ROW_103.out (Nat.le_refl _) (fun b h1 h2 => by omega)
        have RF_105 : Hid (Rr (((((((v103.setCell ⟨v85.heap.size, 0, none⟩ (.int .i64 gh)).setCell ⟨v85.heap.size, 1, none⟩ (.int .i64 gt)).setCell ⟨v85.heap.size, 2, none⟩ (.string ga)).setCell ⟨v85.heap.size, 3, none⟩ (.string gv)).setCell ⟨v85.heap.size, 4, none⟩ (.string gn)).setCell ⟨v85.heap.size, 5, none⟩ (.string gd)).setCell ⟨v85.heap.size, 6, none⟩ (.slice u_103 mg cu_103)) wG.heap.size v103.heap.size v85.heap.size u_103 gl) := (((((((RS_105.set 0 _).set 1 _).set 2 _).set 3 _).set 4 _).set 5 _).set 6 _).low (by omega)
        have KF_105 : Hid (Blk (((((((v103.setCell ⟨v85.heap.size, 0, none⟩ (.int .i64 gh)).setCell ⟨v85.heap.size, 1, none⟩ (.int .i64 gt)).setCell ⟨v85.heap.size, 2, none⟩ (.string ga)).setCell ⟨v85.heap.size, 3, none⟩ (.string gv)).setCell ⟨v85.heap.size, 4, none⟩ (.string gn)).setCell ⟨v85.heap.size, 5, none⟩ (.string gd)).setCell ⟨v85.heap.size, 6, none⟩ (.slice u_103 mg cu_103)) v85.heap.size [.int .i64 gh, .int .i64 gt, .string ga, .string gv, .string gn, .string gd, .slice u_103 mg cu_103] 30) := (((((((K_104.out.set 0 _).set 1 _).set 2 _).set 3 _).set 4 _).set 5 _).set 6 _)
        have HB_105 : Hid (Below wG.heap.size wG (((((((v103.setCell ⟨v85.heap.size, 0, none⟩ (.int .i64 gh)).setCell ⟨v85.heap.size, 1, none⟩ (.int .i64 gt)).setCell ⟨v85.heap.size, 2, none⟩ (.string ga)).setCell ⟨v85.heap.size, 3, none⟩ (.string gv)).setCell ⟨v85.heap.size, 4, none⟩ (.string gn)).setCell ⟨v85.heap.size, 5, none⟩ (.string gd)).setCell ⟨v85.heap.size, 6, none⟩ (.slice u_103 mg cu_103))) := (((((((HB_104.out.setCell (p := ⟨v85.heap.size, 0, none⟩) hG_99 _).setCell (p := ⟨v85.heap.size, 1, none⟩) hG_99 _).setCell (p := ⟨v85.heap.size, 2, none⟩) hG_99 _).setCell (p := ⟨v85.heap.size, 3, none⟩) hG_99 _).setCell (p := ⟨v85.heap.size, 4, none⟩) hG_99 _).setCell (p := ⟨v85.heap.size, 5, none⟩) hG_99 _).setCell (p := ⟨v85.heap.size, 6, none⟩) hG_99 _)
        have p_105_0 := K_104.out.cell 0 rfl
        have p_105_1 := K_104.out.cell 1 rfl
        have p_105_2 := K_104.out.cell 2 rfl
        have p_105_3 := K_104.out.cell 3 rfl
        have p_105_4 := K_104.out.cell 4 rfl
        have p_105_5 := K_104.out.cell 5 rfl
        have p_105_6 := K_104.out.cell 6 rfl
        have pf_105 := fun q => K_104.out.frozen q
        go_simp
        refine hK.out _ _ (⟨hflat _ (HA_84.out.step HB_105.out), ⟨(K1_84.out.below HB_105.out K1_84.out.lt).cell 0 rfl, (K1_84.out.below HB_105.out K1_84.out.lt).cell 1 rfl, (K1_84.out.below HB_105.out K1_84.out.lt).cell 2 rfl, (K1_84.out.below HB_105.out K1_84.out.lt).cell 3 rfl, (K1_84.out.below HB_105.out K1_84.out.lt).cell 4 rfl, (K1_84.out.below HB_105.out K1_84.out.lt).cell 5 rfl, (K1_84.out.below HB_105.out K1_84.out.lt).cell 6 rfl⟩, ⟨(K4.out.below HB_105.out K4.out.lt).cell 0 rfl, (K4.out.below HB_105.out K4.out.lt).cell 1 rfl, (K4.out.below HB_105.out K4.out.lt).cell 2 rfl, (K4.out.below HB_105.out K4.out.lt).cell 3 rfl⟩⟩) (fun hHeld => ?_)
        clear hK K
        try simp only [Act.put, List.setIfInBounds_toArray, List.set_cons_zero, List.set_cons_succ]
        refine wpAnyH_take (i := 14) (oi := { dst := Option.some 20, op := Go.Op.assign (Go.Operand.tmp 78), type := 3, pos := "exact.go:4028", after := #[{ on := 11, ground := Go.Ground.data }, { on := 13, ground := Go.Ground.chain }, { on := 0, ground := Go.Ground.phase }, { on := 1, ground := Go.Ground.phase }, { on := 2, ground := Go.Ground.phase }, { on := 3, ground := Go.Ground.phase }, { on := 4, ground := Go.Ground.phase }, { on := 5, ground := Go.Ground.phase }, { on := 6, ground := Go.Ground.phase }, { on := 7, ground := Go.Ground.phase }, { on := 8, ground := Go.Ground.phase }, { on := 9, ground := Go.Ground.phase }, { on := 10, ground := Go.Ground.phase }, { on := 11, ground := Go.Ground.phase }, { on := 12, ground := Go.Ground.phase }, { on := 13, ground := Go.Ground.phase }], guard := Option.none }) (v := ?_) rfl (by kernel_rfl) (by kernel_rfl) (by kernel_rfl) (fun _ _ _ h => h) (Or.inl ⟨by rfl, ?_⟩) hHeld ?_
        rotate_left
        · intro w hSw
          try dsimp only at hSw
          go_simp
          try (with_reducible rfl)
        simp only [Act.put, List.setIfInBounds_toArray, List.set_cons_zero, List.set_cons_succ]
        refine wpAnyH_done (by kernel_rfl) ?_ _
        go_wp2_with fail
        go_meet
        exact ⟨v85.heap.size, u_103, cu_103, rfl, rfl, ⟨⟨hG_99, KF_105.out⟩, RF_105.out.top, HB_105.out⟩⟩
    · have bA_106 : Below wd.heap.size wd (wd.alloc (.cells [.int .i64 0, .int .i64 0, .string ⟨#[]⟩, .string ⟨#[]⟩, .string ⟨#[]⟩, .string ⟨#[]⟩, .slice none 0 0].toArray 30)) := below_one _ _
      have HB_107 : Hid (Below wG.heap.size wG (wd.alloc (.cells [.int .i64 0, .int .i64 0, .string ⟨#[]⟩, .string ⟨#[]⟩, .string ⟨#[]⟩, .string ⟨#[]⟩, .slice none 0 0].toArray 30))) := HBd_wG.out.trans (bA_106.mono HBd_wG.out.size)
      have K_106 : Hid (Blk (wd.alloc (.cells [.int .i64 0, .int .i64 0, .string ⟨#[]⟩, .string ⟨#[]⟩, .string ⟨#[]⟩, .string ⟨#[]⟩, .slice none 0 0].toArray 30)) wd.heap.size [.int .i64 0, .int .i64 0, .string ⟨#[]⟩, .string ⟨#[]⟩, .string ⟨#[]⟩, .string ⟨#[]⟩, .slice none 0 0] 30) := blk_new wd _ _
      have hG_106 : wG.heap.size ≤ wd.heap.size := HBd_wG.out.size
      go_simp
      generalize wd.alloc (Obj.cells [.int .i64 0, .int .i64 0, .string ⟨#[]⟩, .string ⟨#[]⟩, .string ⟨#[]⟩, .string ⟨#[]⟩, .slice none 0 0].toArray 30) = wz_106 at *
      refine hK.out _ _ (⟨hflat _ (HA_84.out.step HB_107.out), ⟨(K1_84.out.below HB_107.out K1_84.out.lt).cell 0 rfl, (K1_84.out.below HB_107.out K1_84.out.lt).cell 1 rfl, (K1_84.out.below HB_107.out K1_84.out.lt).cell 2 rfl, (K1_84.out.below HB_107.out K1_84.out.lt).cell 3 rfl, (K1_84.out.below HB_107.out K1_84.out.lt).cell 4 rfl, (K1_84.out.below HB_107.out K1_84.out.lt).cell 5 rfl, (K1_84.out.below HB_107.out K1_84.out.lt).cell 6 rfl⟩, ⟨(K4.out.below HB_107.out K4.out.lt).cell 0 rfl, (K4.out.below HB_107.out K4.out.lt).cell 1 rfl, (K4.out.below HB_107.out K4.out.lt).cell 2 rfl, (K4.out.below HB_107.out K4.out.lt).cell 3 rfl⟩⟩) (fun hHeld => ?_)
      clear hK K
      try simp only [Act.put, List.setIfInBounds_toArray, List.set_cons_zero, List.set_cons_succ]
      refine wpAnyH_ready (rs := [1]) (by kernel_rfl) (by decide) ?_
      refine AllReadyH.cons (o := { dst := Option.some 69, op := Go.Op.call { callee := Go.Callee.value (Go.Operand.func 18), args := #[Go.Operand.tmp 68], argTypes := #[44] }, type := 25, pos := "exact.go:4028", after := #[{ on := 0, ground := Go.Ground.data }], guard := Option.none }) rfl (fun K hK => ?_) AllReadyH.nil
      go_simp
      go_at_call 18
      refine (kT _).mono ?_
      rintro e v108 ⟨rfl, b108⟩
      have HB_109 : Hid (Below wG.heap.size wG v108) := HB_107.out.trans (b108.mono HB_107.out.size)
      have K_109 : Hid (Blk v108 wd.heap.size [.int .i64 0, .int .i64 0, .string ⟨#[]⟩, .string ⟨#[]⟩, .string ⟨#[]⟩, .string ⟨#[]⟩, .slice none 0 0] 30) := K_106.out.below b108 K_106.out.lt
      clear b108
      refine hK.out _ _ (⟨hflat _ (HA_84.out.step HB_109.out), ⟨(K1_84.out.below HB_109.out K1_84.out.lt).cell 0 rfl, (K1_84.out.below HB_109.out K1_84.out.lt).cell 1 rfl, (K1_84.out.below HB_109.out K1_84.out.lt).cell 2 rfl, (K1_84.out.below HB_109.out K1_84.out.lt).cell 3 rfl, (K1_84.out.below HB_109.out K1_84.out.lt).cell 4 rfl, (K1_84.out.below HB_109.out K1_84.out.lt).cell 5 rfl, (K1_84.out.below HB_109.out K1_84.out.lt).cell 6 rfl⟩, ⟨(K4.out.below HB_109.out K4.out.lt).cell 0 rfl, (K4.out.below HB_109.out K4.out.lt).cell 1 rfl, (K4.out.below HB_109.out K4.out.lt).cell 2 rfl, (K4.out.below HB_109.out K4.out.lt).cell 3 rfl⟩⟩) (fun hHeld => ?_)
      clear hK K
      try simp only [Act.put, List.setIfInBounds_toArray, List.set_cons_zero, List.set_cons_succ]
      refine wpAnyH_ready (rs := [4]) (by kernel_rfl) (by decide) ?_
      refine AllReadyH.cons (o := { dst := Option.some 72, op := Go.Op.call { callee := Go.Callee.value (Go.Operand.func 20), args := #[Go.Operand.tmp 71], argTypes := #[45] }, type := 27, pos := "exact.go:4028", after := #[{ on := 3, ground := Go.Ground.data }, { on := 1, ground := Go.Ground.chain }], guard := Option.none }) rfl (fun K hK => ?_) AllReadyH.nil
      go_simp
      go_at_call 20
      refine (kX _).mono ?_
      rintro e v110 ⟨rfl, b110⟩
      have HB_111 : Hid (Below wG.heap.size wG v110) := HB_109.out.trans (b110.mono HB_109.out.size)
      have K_111 : Hid (Blk v110 wd.heap.size [.int .i64 0, .int .i64 0, .string ⟨#[]⟩, .string ⟨#[]⟩, .string ⟨#[]⟩, .string ⟨#[]⟩, .slice none 0 0] 30) := K_109.out.below b110 K_109.out.lt
      clear b110
      refine hK.out _ _ (⟨hflat _ (HA_84.out.step HB_111.out), ⟨(K1_84.out.below HB_111.out K1_84.out.lt).cell 0 rfl, (K1_84.out.below HB_111.out K1_84.out.lt).cell 1 rfl, (K1_84.out.below HB_111.out K1_84.out.lt).cell 2 rfl, (K1_84.out.below HB_111.out K1_84.out.lt).cell 3 rfl, (K1_84.out.below HB_111.out K1_84.out.lt).cell 4 rfl, (K1_84.out.below HB_111.out K1_84.out.lt).cell 5 rfl, (K1_84.out.below HB_111.out K1_84.out.lt).cell 6 rfl⟩, ⟨(K4.out.below HB_111.out K4.out.lt).cell 0 rfl, (K4.out.below HB_111.out K4.out.lt).cell 1 rfl, (K4.out.below HB_111.out K4.out.lt).cell 2 rfl, (K4.out.below HB_111.out K4.out.lt).cell 3 rfl⟩⟩) (fun hHeld => ?_)
      clear hK K
      try simp only [Act.put, List.setIfInBounds_toArray, List.set_cons_zero, List.set_cons_succ]
      refine wpAnyH_ready (rs := [8]) (by kernel_rfl) (by decide) ?_
      refine AllReadyH.cons (o := { dst := Option.some 76, op := Go.Op.call { callee := Go.Callee.value (Go.Operand.func 7), args := #[Go.Operand.tmp 69, Go.Operand.tmp 70, Go.Operand.tmp 72, Go.Operand.tmp 73, Go.Operand.tmp 74, Go.Operand.tmp 75], argTypes := #[25, 30, 27, 28, 33, 3] }, type := 36, pos := "exact.go:4028", after := #[{ on := 1, ground := Go.Ground.data }, { on := 2, ground := Go.Ground.data }, { on := 4, ground := Go.Ground.data }, { on := 5, ground := Go.Ground.data }, { on := 6, ground := Go.Ground.data }, { on := 7, ground := Go.Ground.data }, { on := 4, ground := Go.Ground.chain }], guard := Option.none }) rfl (fun K hK => ?_) AllReadyH.nil
      go_simp
      go_at_call 7
      refine (kIc u1 u3 u4 h20 hm20 _ (R1_84.out.below HB_111.out).o HN1.out (R3_84.out.below HB_111.out).o HN3.out (Cop.below C4.out HB_111.out).o (HT.out.below (HA_84.out.step HB_111.out).2.2.2.2 HT.out.pos)).mono ?_
      rintro e v112 ⟨u_112, cu_112, rfl, ROW_112, b112⟩
      have HB_113 : Hid (Below wG.heap.size wG v112) := HB_111.out.trans (b112.mono HB_111.out.size)
      have K_113 : Hid (Blk v112 wd.heap.size [.int .i64 0, .int .i64 0, .string ⟨#[]⟩, .string ⟨#[]⟩, .string ⟨#[]⟩, .string ⟨#[]⟩, .slice none 0 0] 30) := K_111.out.below b112 K_111.out.lt
      have hbs_112 : wG.heap.size ≤ v110.heap.size := HB_111.out.size
      clear b112
      have hGb_112 : wd.heap.size < v110.heap.size := K_111.out.lt
      refine hK.out _ _ (⟨hflat _ (HA_84.out.step HB_113.out), ⟨(K1_84.out.below HB_113.out K1_84.out.lt).cell 0 rfl, (K1_84.out.below HB_113.out K1_84.out.lt).cell 1 rfl, (K1_84.out.below HB_113.out K1_84.out.lt).cell 2 rfl, (K1_84.out.below HB_113.out K1_84.out.lt).cell 3 rfl, (K1_84.out.below HB_113.out K1_84.out.lt).cell 4 rfl, (K1_84.out.below HB_113.out K1_84.out.lt).cell 5 rfl, (K1_84.out.below HB_113.out K1_84.out.lt).cell 6 rfl⟩, ⟨(K4.out.below HB_113.out K4.out.lt).cell 0 rfl, (K4.out.below HB_113.out K4.out.lt).cell 1 rfl, (K4.out.below HB_113.out K4.out.lt).cell 2 rfl, (K4.out.below HB_113.out K4.out.lt).cell 3 rfl⟩⟩) (fun hHeld => ?_)
      clear hK K
      try simp only [Act.put, List.setIfInBounds_toArray, List.set_cons_zero, List.set_cons_succ]
      refine wpAnyH_take (i := 9) (oi := { dst := Option.some 67, op := Go.Op.move (Go.Operand.tmp 76), type := 36, pos := "exact.go:4028", after := #[{ on := 8, ground := Go.Ground.data }], guard := Option.none }) (v := ?_) rfl (by kernel_rfl) (by kernel_rfl) (by kernel_rfl) (fun _ _ _ h => h) (Or.inl ⟨by rfl, ?_⟩) hHeld ?_
      rotate_left
      · intro w hSw
        try dsimp only at hSw
        go_simp
        try (with_reducible rfl)
      simp only [Act.put, List.setIfInBounds_toArray, List.set_cons_zero, List.set_cons_succ]
      refine wpAnyH_take (i := 10) (oi := { dst := Option.some 77, op := Go.Op.extract (Go.Operand.tmp 67) 0, type := 30, pos := "exact.go:4028", after := #[{ on := 9, ground := Go.Ground.data }], guard := Option.none }) (v := ?_) rfl (by kernel_rfl) (by kernel_rfl) (by kernel_rfl) (fun _ _ _ h => h) (Or.inl ⟨by rfl, ?_⟩) hHeld ?_
      rotate_left
      · intro w hSw
        try dsimp only at hSw
        go_simp
        try (with_reducible rfl)
      simp only [Act.put, List.setIfInBounds_toArray, List.set_cons_zero, List.set_cons_succ]
      refine wpAnyH_take (i := 11) (oi := { dst := Option.some 78, op := Go.Op.extract (Go.Operand.tmp 67) 1, type := 3, pos := "exact.go:4028", after := #[{ on := 9, ground := Go.Ground.data }, { on := 13, ground := Go.Ground.gcOnly Go.Departure.lateStores }], guard := Option.none }) (v := ?_) rfl (by kernel_rfl) (by kernel_rfl) (by kernel_rfl) (fun _ _ _ h => h) (Or.inl ⟨by rfl, ?_⟩) hHeld ?_
      rotate_left
      · intro w hSw
        try dsimp only at hSw
        go_simp
        try (with_reducible rfl)
      simp only [Act.put, List.setIfInBounds_toArray, List.set_cons_zero, List.set_cons_succ]
      refine wpAnyH_ready (rs := [13]) (by kernel_rfl) (by decide) ?_
      refine AllReadyH.cons (o := { dst := Option.none, op := Go.Op.store 30 (Go.Operand.tmp 19) (Go.Operand.tmp 77), type := 0, pos := "exact.go:4028", after := #[{ on := 12, ground := Go.Ground.data }, { on := 10, ground := Go.Ground.data }, { on := 8, ground := Go.Ground.chain }, { on := 0, ground := Go.Ground.phase }, { on := 1, ground := Go.Ground.phase }, { on := 2, ground := Go.Ground.phase }, { on := 3, ground := Go.Ground.phase }, { on := 4, ground := Go.Ground.phase }, { on := 5, ground := Go.Ground.phase }, { on := 6, ground := Go.Ground.phase }, { on := 7, ground := Go.Ground.phase }, { on := 8, ground := Go.Ground.phase }, { on := 9, ground := Go.Ground.phase }, { on := 10, ground := Go.Ground.phase }, { on := 11, ground := Go.Ground.textOnly Go.Departure.lateStores }, { on := 12, ground := Go.Ground.phase }], guard := Option.none }) rfl (fun K hK => ?_) AllReadyH.nil
      have RS_114 : Rr v112 v110.heap.size v112.heap.size wd.heap.size u_112 gl := OwnV.rr ROW_112.out (Nat.le_refl _) (fun b h1 h2 => by omega)
      have RF_114 : Hid (Rr (((((((v112.setCell ⟨wd.heap.size, 0, none⟩ (.int .i64 gh)).setCell ⟨wd.heap.size, 1, none⟩ (.int .i64 gt)).setCell ⟨wd.heap.size, 2, none⟩ (.string ga)).setCell ⟨wd.heap.size, 3, none⟩ (.string gv)).setCell ⟨wd.heap.size, 4, none⟩ (.string gn)).setCell ⟨wd.heap.size, 5, none⟩ (.string gd)).setCell ⟨wd.heap.size, 6, none⟩ (.slice u_112 mg cu_112)) wG.heap.size v112.heap.size wd.heap.size u_112 gl) := (((((((RS_114.set 0 _).set 1 _).set 2 _).set 3 _).set 4 _).set 5 _).set 6 _).low (by omega)
      have KF_114 : Hid (Blk (((((((v112.setCell ⟨wd.heap.size, 0, none⟩ (.int .i64 gh)).setCell ⟨wd.heap.size, 1, none⟩ (.int .i64 gt)).setCell ⟨wd.heap.size, 2, none⟩ (.string ga)).setCell ⟨wd.heap.size, 3, none⟩ (.string gv)).setCell ⟨wd.heap.size, 4, none⟩ (.string gn)).setCell ⟨wd.heap.size, 5, none⟩ (.string gd)).setCell ⟨wd.heap.size, 6, none⟩ (.slice u_112 mg cu_112)) wd.heap.size [.int .i64 gh, .int .i64 gt, .string ga, .string gv, .string gn, .string gd, .slice u_112 mg cu_112] 30) := (((((((K_113.out.set 0 _).set 1 _).set 2 _).set 3 _).set 4 _).set 5 _).set 6 _)
      have HB_114 : Hid (Below wG.heap.size wG (((((((v112.setCell ⟨wd.heap.size, 0, none⟩ (.int .i64 gh)).setCell ⟨wd.heap.size, 1, none⟩ (.int .i64 gt)).setCell ⟨wd.heap.size, 2, none⟩ (.string ga)).setCell ⟨wd.heap.size, 3, none⟩ (.string gv)).setCell ⟨wd.heap.size, 4, none⟩ (.string gn)).setCell ⟨wd.heap.size, 5, none⟩ (.string gd)).setCell ⟨wd.heap.size, 6, none⟩ (.slice u_112 mg cu_112))) := (((((((HB_113.out.setCell (p := ⟨wd.heap.size, 0, none⟩) hG_106 _).setCell (p := ⟨wd.heap.size, 1, none⟩) hG_106 _).setCell (p := ⟨wd.heap.size, 2, none⟩) hG_106 _).setCell (p := ⟨wd.heap.size, 3, none⟩) hG_106 _).setCell (p := ⟨wd.heap.size, 4, none⟩) hG_106 _).setCell (p := ⟨wd.heap.size, 5, none⟩) hG_106 _).setCell (p := ⟨wd.heap.size, 6, none⟩) hG_106 _)
      have p_114_0 := K_113.out.cell 0 rfl
      have p_114_1 := K_113.out.cell 1 rfl
      have p_114_2 := K_113.out.cell 2 rfl
      have p_114_3 := K_113.out.cell 3 rfl
      have p_114_4 := K_113.out.cell 4 rfl
      have p_114_5 := K_113.out.cell 5 rfl
      have p_114_6 := K_113.out.cell 6 rfl
      have pf_114 := fun q => K_113.out.frozen q
      go_simp
      refine hK.out _ _ (⟨hflat _ (HA_84.out.step HB_114.out), ⟨(K1_84.out.below HB_114.out K1_84.out.lt).cell 0 rfl, (K1_84.out.below HB_114.out K1_84.out.lt).cell 1 rfl, (K1_84.out.below HB_114.out K1_84.out.lt).cell 2 rfl, (K1_84.out.below HB_114.out K1_84.out.lt).cell 3 rfl, (K1_84.out.below HB_114.out K1_84.out.lt).cell 4 rfl, (K1_84.out.below HB_114.out K1_84.out.lt).cell 5 rfl, (K1_84.out.below HB_114.out K1_84.out.lt).cell 6 rfl⟩, ⟨(K4.out.below HB_114.out K4.out.lt).cell 0 rfl, (K4.out.below HB_114.out K4.out.lt).cell 1 rfl, (K4.out.below HB_114.out K4.out.lt).cell 2 rfl, (K4.out.below HB_114.out K4.out.lt).cell 3 rfl⟩⟩) (fun hHeld => ?_)
      clear hK K
      try simp only [Act.put, List.setIfInBounds_toArray, List.set_cons_zero, List.set_cons_succ]
      refine wpAnyH_take (i := 14) (oi := { dst := Option.some 20, op := Go.Op.assign (Go.Operand.tmp 78), type := 3, pos := "exact.go:4028", after := #[{ on := 11, ground := Go.Ground.data }, { on := 13, ground := Go.Ground.chain }, { on := 0, ground := Go.Ground.phase }, { on := 1, ground := Go.Ground.phase }, { on := 2, ground := Go.Ground.phase }, { on := 3, ground := Go.Ground.phase }, { on := 4, ground := Go.Ground.phase }, { on := 5, ground := Go.Ground.phase }, { on := 6, ground := Go.Ground.phase }, { on := 7, ground := Go.Ground.phase }, { on := 8, ground := Go.Ground.phase }, { on := 9, ground := Go.Ground.phase }, { on := 10, ground := Go.Ground.phase }, { on := 11, ground := Go.Ground.phase }, { on := 12, ground := Go.Ground.phase }, { on := 13, ground := Go.Ground.phase }], guard := Option.none }) (v := ?_) rfl (by kernel_rfl) (by kernel_rfl) (by kernel_rfl) (fun _ _ _ h => h) (Or.inl ⟨by rfl, ?_⟩) hHeld ?_
      rotate_left
      · intro w hSw
        try dsimp only at hSw
        go_simp
        try (with_reducible rfl)
      simp only [Act.put, List.setIfInBounds_toArray, List.set_cons_zero, List.set_cons_succ]
      refine wpAnyH_done (by kernel_rfl) ?_ _
      go_wp2_with fail
      go_meet
      exact ⟨wd.heap.size, u_112, cu_112, rfl, rfl, ⟨⟨hG_106, KF_114.out⟩, RF_114.out.top, HB_114.out⟩⟩
  case rest =>
  rename World => wH
  obtain ⟨G9, u9, c9, rfl, rfl, HF9⟩ := hcut
  have HA_115 : Hid (Arg w wH ⟨tp, ts⟩ ⟨yh, yt, ya, yv, yn, yd⟩ (.slice p m cap) ⟨h, t, aa, v, n, d⟩ ⟨ch, cr, ci, cl⟩ b cb) := HA_84.out.step HF9.out.2.2
  have K0_115 : Hid (Blk wH G0 [.int .i64 gh, .int .i64 gt, .string ga, .string gv, .string gn, .string gd, .slice u0 mg c0] 30) := K0_84.out.below HF9.out.2.2 K0_84.out.lt
  have R0_115 : Hid (Rr wH wA.heap.size wB.heap.size G0 u0 gl) := R0_84.out.below HF9.out.2.2
  have K1_115 : Hid (Blk wH G1 [.int .i64 yh, .int .i64 yt, .string ya, .string yv, .string yn, .string yd, .slice u1 m m] 30) := K1_84.out.below HF9.out.2.2 K1_84.out.lt
  have R1_115 : Hid (Rr wH wB.heap.size G1 0 u1 l) := R1_84.out.below HF9.out.2.2
  have R3_115 : Hid (Rr wH wD.heap.size wE.heap.size 0 u3 nx) := R3_84.out.below HF9.out.2.2
  have K4_115 : Hid (Blk wH G4 [.int .i64 ch, .int .i64 cr, .string ci, .slice u4 cl.length cl.length] 33) := K4.out.below HF9.out.2.2 K4.out.lt
  have C4_115 : Hid (Cop wH wE.heap.size ⟨ch, cr, ci, cl⟩ u4) := C4.out.below HF9.out.2.2
  have M4_115 : Hid (Mk wH wE.heap.size u4 cl.length) := M4.out.below HF9.out.2.2
  clear HA_84 K0_84 R0_84 K1_84 R1_84 R3_84 K4 C4 M4
  have K9 : Hid (Blk wH G9 [.int .i64 gh, .int .i64 gt, .string ga, .string gv, .string gn, .string gd, .slice u9 mg c9] 30) := HF9.out.1.2
  have R9 : Hid (Rr wH wG.heap.size wH.heap.size G9 u9 gl) := HF9.out.2.1
  have g9a : wG.heap.size ≤ G9 := HF9.out.1.1
  have g9b : G9 < wH.heap.size := K9.out.lt
  clear HF9
  have hNN : (N != N) = false := by simp
  have hg40 : mg ≤ 1099511627776 := by omega
  have h40 : m ≤ 1099511627776 := by omega
  have hm40 : m' ≤ 1099511627776 := by omega
  have hc40 : cl.length ≤ 1099511627776 := by omega
  have ka0 := K9.out.cell 0 rfl
  have ka1 := K9.out.cell 1 rfl
  have ka2 := K9.out.cell 2 rfl
  have ka3 := K9.out.cell 3 rfl
  have ka4 := K9.out.cell 4 rfl
  have ka5 := K9.out.cell 5 rfl
  have ka6 := K9.out.cell 6 rfl
  have kb0 := K0_115.out.cell 0 rfl
  have kb1 := K0_115.out.cell 1 rfl
  have kb2 := K0_115.out.cell 2 rfl
  have kb3 := K0_115.out.cell 3 rfl
  have kb4 := K0_115.out.cell 4 rfl
  have kb5 := K0_115.out.cell 5 rfl
  have kb6 := K0_115.out.cell 6 rfl
  go_wp2_with fail
  refine (kEg u9 u0 c9 c0 _ R9.out.o R0_115.out.o hg40).mono ?_
  rintro e wI ⟨rfl, bb⟩
  clear ka0 ka1 ka2 ka3 ka4 ka5 ka6 kb0 kb1 kb2 kb3 kb4 kb5 kb6
  have HA_116 : Hid (Arg w wI ⟨tp, ts⟩ ⟨yh, yt, ya, yv, yn, yd⟩ (.slice p m cap) ⟨h, t, aa, v, n, d⟩ ⟨ch, cr, ci, cl⟩ b cb) := HA_115.out.step bb
  have K0_116 : Hid (Blk wI G0 [.int .i64 gh, .int .i64 gt, .string ga, .string gv, .string gn, .string gd, .slice u0 mg c0] 30) := K0_115.out.below bb K0_115.out.lt
  have R0_116 : Hid (Rr wI wA.heap.size wB.heap.size G0 u0 gl) := R0_115.out.below bb
  have K1_116 : Hid (Blk wI G1 [.int .i64 yh, .int .i64 yt, .string ya, .string yv, .string yn, .string yd, .slice u1 m m] 30) := K1_115.out.below bb K1_115.out.lt
  have R1_116 : Hid (Rr wI wB.heap.size G1 0 u1 l) := R1_115.out.below bb
  have R3_116 : Hid (Rr wI wD.heap.size wE.heap.size 0 u3 nx) := R3_115.out.below bb
  have K4_116 : Hid (Blk wI G4 [.int .i64 ch, .int .i64 cr, .string ci, .slice u4 cl.length cl.length] 33) := K4_115.out.below bb K4_115.out.lt
  have C4_116 : Hid (Cop wI wE.heap.size ⟨ch, cr, ci, cl⟩ u4) := C4_115.out.below bb
  have M4_116 : Hid (Mk wI wE.heap.size u4 cl.length) := M4_115.out.below bb
  have K9_116 : Hid (Blk wI G9 [.int .i64 gh, .int .i64 gt, .string ga, .string gv, .string gn, .string gd, .slice u9 mg c9] 30) := K9.out.below bb K9.out.lt
  have R9_116 : Hid (Rr wI wG.heap.size wH.heap.size G9 u9 gl) := R9.out.below bb
  clear HA_115 K0_115 R0_115 K1_115 R1_115 R3_115 K4_115 C4_115 M4_115 K9 R9
  clear bb
  obtain ⟨⟨at0, at1⟩, ⟨ay0, ay1, ay2, ay3, ay4, ay5, ay6⟩, ⟨ax0, ax1, ax2, ax3, ax4, ax5⟩, ⟨ac0, ac1, ac2, ac3⟩⟩ := hflat _ HA_116.out
  have ka0 := K1_116.out.cell 0 rfl
  have ka1 := K1_116.out.cell 1 rfl
  have ka2 := K1_116.out.cell 2 rfl
  have ka3 := K1_116.out.cell 3 rfl
  have ka4 := K1_116.out.cell 4 rfl
  have ka5 := K1_116.out.cell 5 rfl
  have ka6 := K1_116.out.cell 6 rfl
  have HB7 : Hid (Below wI.heap.size wI wI.drew) := (Below.refl _ _).drew
  go_wp2_with fail
  go_region_held3 (fun W : World => ((W.cell? ⟨w.heap.size, 0, none⟩ = some (.int .i64 tp) ∧ W.cell? ⟨w.heap.size, 1, none⟩ = some (.int .i64 ts)) ∧ (W.cell? ⟨w.heap.size + 1, 0, none⟩ = some (.int .i64 yh) ∧ W.cell? ⟨w.heap.size + 1, 1, none⟩ = some (.int .i64 yt) ∧ W.cell? ⟨w.heap.size + 1, 2, none⟩ = some (.string ya) ∧ W.cell? ⟨w.heap.size + 1, 3, none⟩ = some (.string yv) ∧ W.cell? ⟨w.heap.size + 1, 4, none⟩ = some (.string yn) ∧ W.cell? ⟨w.heap.size + 1, 5, none⟩ = some (.string yd) ∧ W.cell? ⟨w.heap.size + 1, 6, none⟩ = some (.slice p m cap)) ∧ (W.cell? ⟨w.heap.size + 2, 0, none⟩ = some (.int .i64 h) ∧ W.cell? ⟨w.heap.size + 2, 1, none⟩ = some (.int .i64 t) ∧ W.cell? ⟨w.heap.size + 2, 2, none⟩ = some (.string aa) ∧ W.cell? ⟨w.heap.size + 2, 3, none⟩ = some (.string v) ∧ W.cell? ⟨w.heap.size + 2, 4, none⟩ = some (.string n) ∧ W.cell? ⟨w.heap.size + 2, 5, none⟩ = some (.string d)) ∧ (W.cell? ⟨w.heap.size + 3, 0, none⟩ = some (.int .i64 ch) ∧ W.cell? ⟨w.heap.size + 3, 1, none⟩ = some (.int .i64 cr) ∧ W.cell? ⟨w.heap.size + 3, 2, none⟩ = some (.string ci) ∧ W.cell? ⟨w.heap.size + 3, 3, none⟩ = some (.slice b cl.length cb))) ∧ (W.cell? ⟨G1, 0, none⟩ = some (.int .i64 yh) ∧ W.cell? ⟨G1, 1, none⟩ = some (.int .i64 yt) ∧ W.cell? ⟨G1, 2, none⟩ = some (.string ya) ∧ W.cell? ⟨G1, 3, none⟩ = some (.string yv) ∧ W.cell? ⟨G1, 4, none⟩ = some (.string yn) ∧ W.cell? ⟨G1, 5, none⟩ = some (.string yd) ∧ W.cell? ⟨G1, 6, none⟩ = some (.slice u1 m m))) (first | assumption | exact ⟨hflat _ (HA_116.out.step HB81.out), ⟨(K1_116.out.below HB81.out K1_116.out.lt).cell 0 rfl, (K1_116.out.below HB81.out K1_116.out.lt).cell 1 rfl, (K1_116.out.below HB81.out K1_116.out.lt).cell 2 rfl, (K1_116.out.below HB81.out K1_116.out.lt).cell 3 rfl, (K1_116.out.below HB81.out K1_116.out.lt).cell 4 rfl, (K1_116.out.below HB81.out K1_116.out.lt).cell 5 rfl, (K1_116.out.below HB81.out K1_116.out.lt).cell 6 rfl⟩⟩ | exact ⟨hflat _ (HA_116.out.step HB80.out), ⟨(K1_116.out.below HB80.out K1_116.out.lt).cell 0 rfl, (K1_116.out.below HB80.out K1_116.out.lt).cell 1 rfl, (K1_116.out.below HB80.out K1_116.out.lt).cell 2 rfl, (K1_116.out.below HB80.out K1_116.out.lt).cell 3 rfl, (K1_116.out.below HB80.out K1_116.out.lt).cell 4 rfl, (K1_116.out.below HB80.out K1_116.out.lt).cell 5 rfl, (K1_116.out.below HB80.out K1_116.out.lt).cell 6 rfl⟩⟩ | exact ⟨hflat _ (HA_116.out.step HB7.out), ⟨(K1_116.out.below HB7.out K1_116.out.lt).cell 0 rfl, (K1_116.out.below HB7.out K1_116.out.lt).cell 1 rfl, (K1_116.out.below HB7.out K1_116.out.lt).cell 2 rfl, (K1_116.out.below HB7.out K1_116.out.lt).cell 3 rfl, (K1_116.out.below HB7.out K1_116.out.lt).cell 4 rfl, (K1_116.out.below HB7.out K1_116.out.lt).cell 5 rfl, (K1_116.out.below HB7.out K1_116.out.lt).cell 6 rfl⟩⟩) (first | (go_at_call 19; refine (kA _ (HL.out.below (HA_116.out.step HB7.out).2.2.2.2) h20).mono ?_; rintro e wJ_0 ⟨u5, rfl, HU5, b80⟩; have HB80 : Hid (Below wI.heap.size wI wJ_0) := HB7.out.trans (b80.mono HB7.out.size)) | (go_at_call 23; refine (kE1 u1 u5 _ (R1_116.out.below HB80.out).o HU5.out.o h40).mono ?_; rintro e wJ_1 ⟨rfl, b81⟩; have HB81 : Hid (Below wI.heap.size wI wJ_1) := HB80.out.trans (b81.mono HB80.out.size)))
  clear HB7 b80 b81 at0 at1 ay0 ay1 ay2 ay3 ay4 ay5 ay6 ax0 ax1 ax2 ax3 ax4 ax5 ac0 ac1 ac2 ac3 ka0 ka1 ka2 ka3 ka4 ka5 ka6 HU5
  have HA_117 : Hid (Arg w wJ_1 ⟨tp, ts⟩ ⟨yh, yt, ya, yv, yn, yd⟩ (.slice p m cap) ⟨h, t, aa, v, n, d⟩ ⟨ch, cr, ci, cl⟩ b cb) := HA_116.out.step HB81.out
  have K0_117 : Hid (Blk wJ_1 G0 [.int .i64 gh, .int .i64 gt, .string ga, .string gv, .string gn, .string gd, .slice u0 mg c0] 30) := K0_116.out.below HB81.out K0_116.out.lt
  have R0_117 : Hid (Rr wJ_1 wA.heap.size wB.heap.size G0 u0 gl) := R0_116.out.below HB81.out
  have K1_117 : Hid (Blk wJ_1 G1 [.int .i64 yh, .int .i64 yt, .string ya, .string yv, .string yn, .string yd, .slice u1 m m] 30) := K1_116.out.below HB81.out K1_116.out.lt
  have R1_117 : Hid (Rr wJ_1 wB.heap.size G1 0 u1 l) := R1_116.out.below HB81.out
  have R3_117 : Hid (Rr wJ_1 wD.heap.size wE.heap.size 0 u3 nx) := R3_116.out.below HB81.out
  have K4_117 : Hid (Blk wJ_1 G4 [.int .i64 ch, .int .i64 cr, .string ci, .slice u4 cl.length cl.length] 33) := K4_116.out.below HB81.out K4_116.out.lt
  have C4_117 : Hid (Cop wJ_1 wE.heap.size ⟨ch, cr, ci, cl⟩ u4) := C4_116.out.below HB81.out
  have M4_117 : Hid (Mk wJ_1 wE.heap.size u4 cl.length) := M4_116.out.below HB81.out
  have K9_117 : Hid (Blk wJ_1 G9 [.int .i64 gh, .int .i64 gt, .string ga, .string gv, .string gn, .string gd, .slice u9 mg c9] 30) := K9_116.out.below HB81.out K9_116.out.lt
  have R9_117 : Hid (Rr wJ_1 wG.heap.size wH.heap.size G9 u9 gl) := R9_116.out.below HB81.out
  clear HA_116 K0_116 R0_116 K1_116 R1_116 R3_116 K4_116 C4_116 M4_116 K9_116 R9_116
  clear HB80 HB81
  go_wp2_with fail
  refine (kN _ (HN.out.below HA_117.out.2.2.2.2) hm20).mono ?_
  rintro e wK ⟨u6, rfl, HU6, bb⟩
  have HA_118 : Hid (Arg w wK ⟨tp, ts⟩ ⟨yh, yt, ya, yv, yn, yd⟩ (.slice p m cap) ⟨h, t, aa, v, n, d⟩ ⟨ch, cr, ci, cl⟩ b cb) := HA_117.out.step bb
  have K0_118 : Hid (Blk wK G0 [.int .i64 gh, .int .i64 gt, .string ga, .string gv, .string gn, .string gd, .slice u0 mg c0] 30) := K0_117.out.below bb K0_117.out.lt
  have R0_118 : Hid (Rr wK wA.heap.size wB.heap.size G0 u0 gl) := R0_117.out.below bb
  have K1_118 : Hid (Blk wK G1 [.int .i64 yh, .int .i64 yt, .string ya, .string yv, .string yn, .string yd, .slice u1 m m] 30) := K1_117.out.below bb K1_117.out.lt
  have R1_118 : Hid (Rr wK wB.heap.size G1 0 u1 l) := R1_117.out.below bb
  have R3_118 : Hid (Rr wK wD.heap.size wE.heap.size 0 u3 nx) := R3_117.out.below bb
  have K4_118 : Hid (Blk wK G4 [.int .i64 ch, .int .i64 cr, .string ci, .slice u4 cl.length cl.length] 33) := K4_117.out.below bb K4_117.out.lt
  have C4_118 : Hid (Cop wK wE.heap.size ⟨ch, cr, ci, cl⟩ u4) := C4_117.out.below bb
  have M4_118 : Hid (Mk wK wE.heap.size u4 cl.length) := M4_117.out.below bb
  have K9_118 : Hid (Blk wK G9 [.int .i64 gh, .int .i64 gt, .string ga, .string gv, .string gn, .string gd, .slice u9 mg c9] 30) := K9_117.out.below bb K9_117.out.lt
  have R9_118 : Hid (Rr wK wG.heap.size wH.heap.size G9 u9 gl) := R9_117.out.below bb
  clear HA_117 K0_117 R0_117 K1_117 R1_117 R3_117 K4_117 C4_117 M4_117 K9_117 R9_117
  clear bb
  go_wp2_with fail
  refine (kEV u3 u6 _ R3_118.out.o HU6.out.o hm40).mono ?_
  rintro e wL ⟨rfl, bb⟩
  have HA_119 : Hid (Arg w wL ⟨tp, ts⟩ ⟨yh, yt, ya, yv, yn, yd⟩ (.slice p m cap) ⟨h, t, aa, v, n, d⟩ ⟨ch, cr, ci, cl⟩ b cb) := HA_118.out.step bb
  have K0_119 : Hid (Blk wL G0 [.int .i64 gh, .int .i64 gt, .string ga, .string gv, .string gn, .string gd, .slice u0 mg c0] 30) := K0_118.out.below bb K0_118.out.lt
  have R0_119 : Hid (Rr wL wA.heap.size wB.heap.size G0 u0 gl) := R0_118.out.below bb
  have K1_119 : Hid (Blk wL G1 [.int .i64 yh, .int .i64 yt, .string ya, .string yv, .string yn, .string yd, .slice u1 m m] 30) := K1_118.out.below bb K1_118.out.lt
  have R1_119 : Hid (Rr wL wB.heap.size G1 0 u1 l) := R1_118.out.below bb
  have R3_119 : Hid (Rr wL wD.heap.size wE.heap.size 0 u3 nx) := R3_118.out.below bb
  have K4_119 : Hid (Blk wL G4 [.int .i64 ch, .int .i64 cr, .string ci, .slice u4 cl.length cl.length] 33) := K4_118.out.below bb K4_118.out.lt
  have C4_119 : Hid (Cop wL wE.heap.size ⟨ch, cr, ci, cl⟩ u4) := C4_118.out.below bb
  have M4_119 : Hid (Mk wL wE.heap.size u4 cl.length) := M4_118.out.below bb
  have K9_119 : Hid (Blk wL G9 [.int .i64 gh, .int .i64 gt, .string ga, .string gv, .string gn, .string gd, .slice u9 mg c9] 30) := K9_118.out.below bb K9_118.out.lt
  have R9_119 : Hid (Rr wL wG.heap.size wH.heap.size G9 u9 gl) := R9_118.out.below bb
  clear HA_118 K0_118 R0_118 K1_118 R1_118 R3_118 K4_118 C4_118 M4_118 K9_118 R9_118
  clear bb HU6
  obtain ⟨⟨at0, at1⟩, ⟨ay0, ay1, ay2, ay3, ay4, ay5, ay6⟩, ⟨ax0, ax1, ax2, ax3, ax4, ax5⟩, ⟨ac0, ac1, ac2, ac3⟩⟩ := hflat _ HA_119.out
  have ka0 := K4_119.out.cell 0 rfl
  have ka1 := K4_119.out.cell 1 rfl
  have ka2 := K4_119.out.cell 2 rfl
  have ka3 := K4_119.out.cell 3 rfl
  have HB7 : Hid (Below wL.heap.size wL wL.drew) := (Below.refl _ _).drew
  go_wp2_with fail
  go_region_held3 (fun W : World => ((W.cell? ⟨w.heap.size, 0, none⟩ = some (.int .i64 tp) ∧ W.cell? ⟨w.heap.size, 1, none⟩ = some (.int .i64 ts)) ∧ (W.cell? ⟨w.heap.size + 1, 0, none⟩ = some (.int .i64 yh) ∧ W.cell? ⟨w.heap.size + 1, 1, none⟩ = some (.int .i64 yt) ∧ W.cell? ⟨w.heap.size + 1, 2, none⟩ = some (.string ya) ∧ W.cell? ⟨w.heap.size + 1, 3, none⟩ = some (.string yv) ∧ W.cell? ⟨w.heap.size + 1, 4, none⟩ = some (.string yn) ∧ W.cell? ⟨w.heap.size + 1, 5, none⟩ = some (.string yd) ∧ W.cell? ⟨w.heap.size + 1, 6, none⟩ = some (.slice p m cap)) ∧ (W.cell? ⟨w.heap.size + 2, 0, none⟩ = some (.int .i64 h) ∧ W.cell? ⟨w.heap.size + 2, 1, none⟩ = some (.int .i64 t) ∧ W.cell? ⟨w.heap.size + 2, 2, none⟩ = some (.string aa) ∧ W.cell? ⟨w.heap.size + 2, 3, none⟩ = some (.string v) ∧ W.cell? ⟨w.heap.size + 2, 4, none⟩ = some (.string n) ∧ W.cell? ⟨w.heap.size + 2, 5, none⟩ = some (.string d)) ∧ (W.cell? ⟨w.heap.size + 3, 0, none⟩ = some (.int .i64 ch) ∧ W.cell? ⟨w.heap.size + 3, 1, none⟩ = some (.int .i64 cr) ∧ W.cell? ⟨w.heap.size + 3, 2, none⟩ = some (.string ci) ∧ W.cell? ⟨w.heap.size + 3, 3, none⟩ = some (.slice b cl.length cb))) ∧ (W.cell? ⟨G4, 0, none⟩ = some (.int .i64 ch) ∧ W.cell? ⟨G4, 1, none⟩ = some (.int .i64 cr) ∧ W.cell? ⟨G4, 2, none⟩ = some (.string ci) ∧ W.cell? ⟨G4, 3, none⟩ = some (.slice u4 cl.length cl.length))) (first | assumption | exact ⟨hflat _ (HA_119.out.step HB81.out), ⟨(K4_119.out.below HB81.out K4_119.out.lt).cell 0 rfl, (K4_119.out.below HB81.out K4_119.out.lt).cell 1 rfl, (K4_119.out.below HB81.out K4_119.out.lt).cell 2 rfl, (K4_119.out.below HB81.out K4_119.out.lt).cell 3 rfl⟩⟩ | exact ⟨hflat _ (HA_119.out.step HB80.out), ⟨(K4_119.out.below HB80.out K4_119.out.lt).cell 0 rfl, (K4_119.out.below HB80.out K4_119.out.lt).cell 1 rfl, (K4_119.out.below HB80.out K4_119.out.lt).cell 2 rfl, (K4_119.out.below HB80.out K4_119.out.lt).cell 3 rfl⟩⟩ | exact ⟨hflat _ (HA_119.out.step HB7.out), ⟨(K4_119.out.below HB7.out K4_119.out.lt).cell 0 rfl, (K4_119.out.below HB7.out K4_119.out.lt).cell 1 rfl, (K4_119.out.below HB7.out K4_119.out.lt).cell 2 rfl, (K4_119.out.below HB7.out K4_119.out.lt).cell 3 rfl⟩⟩) (first | (go_at_call 22; refine (kC _ (HS.out.below (HA_119.out.step HB7.out).2.2.2.2) hc20).mono ?_; rintro e wM_0 ⟨u7, rfl, HU7, b80⟩; have HB80 : Hid (Below wL.heap.size wL wM_0) := HB7.out.trans (b80.mono HB7.out.size)) | (go_at_call 25; refine (kEC u4 u7 _ (Cop.below C4_119.out HB80.out).o HU7.out.o hc40).mono ?_; rintro e wM_1 ⟨rfl, b81⟩; have HB81 : Hid (Below wL.heap.size wL wM_1) := HB80.out.trans (b81.mono HB80.out.size)))
  clear HB7 b80 b81 at0 at1 ay0 ay1 ay2 ay3 ay4 ay5 ay6 ax0 ax1 ax2 ax3 ax4 ax5 ac0 ac1 ac2 ac3 ka0 ka1 ka2 ka3 HU7
  have HA_120 : Hid (Arg w wM_1 ⟨tp, ts⟩ ⟨yh, yt, ya, yv, yn, yd⟩ (.slice p m cap) ⟨h, t, aa, v, n, d⟩ ⟨ch, cr, ci, cl⟩ b cb) := HA_119.out.step HB81.out
  have K0_120 : Hid (Blk wM_1 G0 [.int .i64 gh, .int .i64 gt, .string ga, .string gv, .string gn, .string gd, .slice u0 mg c0] 30) := K0_119.out.below HB81.out K0_119.out.lt
  have R0_120 : Hid (Rr wM_1 wA.heap.size wB.heap.size G0 u0 gl) := R0_119.out.below HB81.out
  have K1_120 : Hid (Blk wM_1 G1 [.int .i64 yh, .int .i64 yt, .string ya, .string yv, .string yn, .string yd, .slice u1 m m] 30) := K1_119.out.below HB81.out K1_119.out.lt
  have R1_120 : Hid (Rr wM_1 wB.heap.size G1 0 u1 l) := R1_119.out.below HB81.out
  have R3_120 : Hid (Rr wM_1 wD.heap.size wE.heap.size 0 u3 nx) := R3_119.out.below HB81.out
  have K4_120 : Hid (Blk wM_1 G4 [.int .i64 ch, .int .i64 cr, .string ci, .slice u4 cl.length cl.length] 33) := K4_119.out.below HB81.out K4_119.out.lt
  have C4_120 : Hid (Cop wM_1 wE.heap.size ⟨ch, cr, ci, cl⟩ u4) := C4_119.out.below HB81.out
  have M4_120 : Hid (Mk wM_1 wE.heap.size u4 cl.length) := M4_119.out.below HB81.out
  have K9_120 : Hid (Blk wM_1 G9 [.int .i64 gh, .int .i64 gt, .string ga, .string gv, .string gn, .string gd, .slice u9 mg c9] 30) := K9_119.out.below HB81.out K9_119.out.lt
  have R9_120 : Hid (Rr wM_1 wG.heap.size wH.heap.size G9 u9 gl) := R9_119.out.below HB81.out
  clear HA_119 K0_119 R0_119 K1_119 R1_119 R3_119 K4_119 C4_119 M4_119 K9_119 R9_119
  clear HB80 HB81
  clear C4_120 kE1 kEV kEC
  obtain ⟨k1, hk1⟩ : ∃ k1 : Nat, 1 + 2 * m = k1 := ⟨_, rfl⟩
  obtain ⟨k2, hk2⟩ : ∃ k2 : Nat, k1 + 2 * m' = k2 := ⟨_, rfl⟩
  obtain ⟨k3, hk3⟩ : ∃ k3 : Nat, k2 + 2 * cl.length = k3 := ⟨_, rfl⟩
  obtain ⟨kg, hkg⟩ : ∃ kg : Nat, 1 + 2 * mg = kg := ⟨_, rfl⟩
  have e1 : ((1 : Nat) : Int) + 2 * (m : Int) = (k1 : Int) := by omega
  have e2 : (k1 : Int) + 2 * (m' : Int) = (k2 : Int) := by omega
  have eg : ((1 : Nat) : Int) + 2 * (mg : Int) = (kg : Int) := by omega
  have kM1b := fun W h => kM1 u1 1 wB.heap.size G1 0 W h h40 (by omega)
  rw [e1] at kM1b
  have kM2b := fun W h => kM2 u3 k1 wD.heap.size wE.heap.size 0 W h hm40 (by omega)
  rw [e2] at kM2b
  have kM3b := fun W h hB => kM3 u4 k2 wE.heap.size W h hc20 (by omega) hB
  rw [hk3] at kM3b
  have kMgb := fun W h => kMg u9 c9 1 wG.heap.size wH.heap.size G9 W h hg40 (by omega)
  rw [eg] at kMgb
  have kHgb := fun W h => kHg u9 c9 1 W h hg40 (by omega)
  rw [eg] at kHgb
  have hk3n : ¬ (k3 : Int) < 0 := by omega
  have hkgn : ¬ (kg : Int) < 0 := by omega
  have hkk : ((kg : Int) != (kg : Int)) = false := by simp
  clear kM1 kM2 kM3 kMg kHg e1 e2 eg hk1 hk2 hk3 hkg
  have ka0 := K1_120.out.cell 0 rfl
  have ka1 := K1_120.out.cell 1 rfl
  have ka2 := K1_120.out.cell 2 rfl
  have ka3 := K1_120.out.cell 3 rfl
  have ka4 := K1_120.out.cell 4 rfl
  have ka5 := K1_120.out.cell 5 rfl
  have ka6 := K1_120.out.cell 6 rfl
  go_wp2_with fail
  refine (kM1b _ R1_120.out).mono ?_
  rintro e wN ⟨rfl, _, r, hr, hg⟩
  clear ka0 ka1 ka2 ka3 ka4 ka5 ka6 R1_120 K1_120
  have HA_121 : Hid (Arg w wN ⟨tp, ts⟩ ⟨yh, yt, ya, yv, yn, yd⟩ (.slice p m cap) ⟨h, t, aa, v, n, d⟩ ⟨ch, cr, ci, cl⟩ b cb) := HA_120.out.mark hg (fun j e => by have := hr j e; omega)
  have K0_121 : Hid (Blk wN G0 [.int .i64 gh, .int .i64 gt, .string ga, .string gv, .string gn, .string gd, .slice u0 mg c0] 30) := K0_120.out.grown hg (fun e => by have := hr _ e; omega)
  have R0_121 : Hid (Rr wN wA.heap.size wB.heap.size G0 u0 gl) := R0_120.out.far hg (fun j e => by have := hr j e; omega)
  have R3_121 : Hid (Rr wN wD.heap.size wE.heap.size 0 u3 nx) := R3_120.out.far hg (fun j e => by have := hr j e; omega)
  have K4_121 : Hid (Blk wN G4 [.int .i64 ch, .int .i64 cr, .string ci, .slice u4 cl.length cl.length] 33) := K4_120.out.grown hg (fun e => by have := hr _ e; omega)
  have M4_121 : Hid (Mk wN wE.heap.size u4 cl.length) := mk_far M4_120.out hg (fun j e => by have := hr j e; omega)
  have K9_121 : Hid (Blk wN G9 [.int .i64 gh, .int .i64 gt, .string ga, .string gv, .string gn, .string gd, .slice u9 mg c9] 30) := K9_120.out.grown hg (fun e => by have := hr _ e; omega)
  have R9_121 : Hid (Rr wN wG.heap.size wH.heap.size G9 u9 gl) := R9_120.out.far hg (fun j e => by have := hr j e; omega)
  clear HA_120 K0_120 R0_120 R3_120 K4_120 M4_120 K9_120 R9_120
  clear hg hr kM1b
  go_wp2_with fail
  refine (kM2b _ R3_121.out).mono ?_
  rintro e wO ⟨rfl, _, r2, hr, hg⟩
  clear R3_121
  have HA_122 : Hid (Arg w wO ⟨tp, ts⟩ ⟨yh, yt, ya, yv, yn, yd⟩ (.slice p m cap) ⟨h, t, aa, v, n, d⟩ ⟨ch, cr, ci, cl⟩ b cb) := HA_121.out.mark hg (fun j e => by have := hr j e; omega)
  have K0_122 : Hid (Blk wO G0 [.int .i64 gh, .int .i64 gt, .string ga, .string gv, .string gn, .string gd, .slice u0 mg c0] 30) := K0_121.out.grown hg (fun e => by have := hr _ e; omega)
  have R0_122 : Hid (Rr wO wA.heap.size wB.heap.size G0 u0 gl) := R0_121.out.far hg (fun j e => by have := hr j e; omega)
  have K4_122 : Hid (Blk wO G4 [.int .i64 ch, .int .i64 cr, .string ci, .slice u4 cl.length cl.length] 33) := K4_121.out.grown hg (fun e => by have := hr _ e; omega)
  have M4_122 : Hid (Mk wO wE.heap.size u4 cl.length) := mk_far M4_121.out hg (fun j e => by have := hr j e; omega)
  have K9_122 : Hid (Blk wO G9 [.int .i64 gh, .int .i64 gt, .string ga, .string gv, .string gn, .string gd, .slice u9 mg c9] 30) := K9_121.out.grown hg (fun e => by have := hr _ e; omega)
  have R9_122 : Hid (Rr wO wG.heap.size wH.heap.size G9 u9 gl) := R9_121.out.far hg (fun j e => by have := hr j e; omega)
  clear HA_121 K0_121 R0_121 K4_121 M4_121 K9_121 R9_121
  clear hg hr kM2b
  have ka0 := K4_122.out.cell 0 rfl
  have ka1 := K4_122.out.cell 1 rfl
  have ka2 := K4_122.out.cell 2 rfl
  have ka3 := K4_122.out.cell 3 rfl
  go_wp2_with fail
  have hsO : wE.heap.size ≤ wO.heap.size := by have := K4_122.out.lt; omega
  refine (kM3b _ M4_122.out hsO).mono ?_
  rintro e wP ⟨rfl, _, r3, hrr, hg⟩
  have hr : ∀ j, r3 = some j → wE.heap.size ≤ j ∧ j < G4 := fun j e => HU4b.out j (hrr j e).2
  clear ka0 ka1 ka2 ka3 M4_122 K4_122 hrr hsO
  have HA_123 : Hid (Arg w wP ⟨tp, ts⟩ ⟨yh, yt, ya, yv, yn, yd⟩ (.slice p m cap) ⟨h, t, aa, v, n, d⟩ ⟨ch, cr, ci, cl⟩ b cb) := HA_122.out.mark hg (fun j e => by have := hr j e; omega)
  have K0_123 : Hid (Blk wP G0 [.int .i64 gh, .int .i64 gt, .string ga, .string gv, .string gn, .string gd, .slice u0 mg c0] 30) := K0_122.out.grown hg (fun e => by have := hr _ e; omega)
  have R0_123 : Hid (Rr wP wA.heap.size wB.heap.size G0 u0 gl) := R0_122.out.far hg (fun j e => by have := hr j e; omega)
  have K9_123 : Hid (Blk wP G9 [.int .i64 gh, .int .i64 gt, .string ga, .string gv, .string gn, .string gd, .slice u9 mg c9] 30) := K9_122.out.grown hg (fun e => by have := hr _ e; omega)
  have R9_123 : Hid (Rr wP wG.heap.size wH.heap.size G9 u9 gl) := R9_122.out.far hg (fun j e => by have := hr j e; omega)
  clear HA_122 K0_122 R0_122 K9_122 R9_122
  clear hg hr kM3b
  have ka0 := K9_123.out.cell 0 rfl
  have ka1 := K9_123.out.cell 1 rfl
  have ka2 := K9_123.out.cell 2 rfl
  have ka3 := K9_123.out.cell 3 rfl
  have ka4 := K9_123.out.cell 4 rfl
  have ka5 := K9_123.out.cell 5 rfl
  have ka6 := K9_123.out.cell 6 rfl
  have kb0 := K0_123.out.cell 0 rfl
  have kb1 := K0_123.out.cell 1 rfl
  have kb2 := K0_123.out.cell 2 rfl
  have kb3 := K0_123.out.cell 3 rfl
  have kb4 := K0_123.out.cell 4 rfl
  have kb5 := K0_123.out.cell 5 rfl
  have kb6 := K0_123.out.cell 6 rfl
  go_wp2_with fail
  refine (kEg u9 u0 c9 c0 _ R9_123.out.o R0_123.out.o hg40).mono ?_
  rintro e wQ ⟨rfl, bb⟩
  clear ka0 ka1 ka2 ka3 ka4 ka5 ka6 kb0 kb1 kb2 kb3 kb4 kb5 kb6
  have HA_124 : Hid (Arg w wQ ⟨tp, ts⟩ ⟨yh, yt, ya, yv, yn, yd⟩ (.slice p m cap) ⟨h, t, aa, v, n, d⟩ ⟨ch, cr, ci, cl⟩ b cb) := HA_123.out.step bb
  have K0_124 : Hid (Blk wQ G0 [.int .i64 gh, .int .i64 gt, .string ga, .string gv, .string gn, .string gd, .slice u0 mg c0] 30) := K0_123.out.below bb K0_123.out.lt
  have R0_124 : Hid (Rr wQ wA.heap.size wB.heap.size G0 u0 gl) := R0_123.out.below bb
  have K9_124 : Hid (Blk wQ G9 [.int .i64 gh, .int .i64 gt, .string ga, .string gv, .string gn, .string gd, .slice u9 mg c9] 30) := K9_123.out.below bb K9_123.out.lt
  have R9_124 : Hid (Rr wQ wG.heap.size wH.heap.size G9 u9 gl) := R9_123.out.below bb
  clear HA_123 K0_123 R0_123 K9_123 R9_123
  clear bb
  have ka0 := K9_124.out.cell 0 rfl
  have ka1 := K9_124.out.cell 1 rfl
  have ka2 := K9_124.out.cell 2 rfl
  have ka3 := K9_124.out.cell 3 rfl
  have ka4 := K9_124.out.cell 4 rfl
  have ka5 := K9_124.out.cell 5 rfl
  have ka6 := K9_124.out.cell 6 rfl
  go_wp2_with fail
  refine (kMgb _ R9_124.out).mono ?_
  rintro e wR ⟨rfl, HR9, r4, hr, hg⟩
  clear ka0 ka1 ka2 ka3 ka4 ka5 ka6 R9_124
  have HA_125 : Hid (Arg w wR ⟨tp, ts⟩ ⟨yh, yt, ya, yv, yn, yd⟩ (.slice p m cap) ⟨h, t, aa, v, n, d⟩ ⟨ch, cr, ci, cl⟩ b cb) := HA_124.out.mark hg (fun j e => by have := hr j e; omega)
  have K0_125 : Hid (Blk wR G0 [.int .i64 gh, .int .i64 gt, .string ga, .string gv, .string gn, .string gd, .slice u0 mg c0] 30) := K0_124.out.grown hg (fun e => by have := hr _ e; omega)
  have R0_125 : Hid (Rr wR wA.heap.size wB.heap.size G0 u0 gl) := R0_124.out.far hg (fun j e => by have := hr j e; omega)
  have K9_125 : Hid (Blk wR G9 [.int .i64 gh, .int .i64 gt, .string ga, .string gv, .string gn, .string gd, .slice u9 mg c9] 30) := K9_124.out.grown hg (fun e => by have := hr _ e; omega)
  clear HA_124 K0_124 R0_124 K9_124
  clear hg hr kMgb
  have ka0 := K9_125.out.cell 0 rfl
  have ka1 := K9_125.out.cell 1 rfl
  have ka2 := K9_125.out.cell 2 rfl
  have ka3 := K9_125.out.cell 3 rfl
  have ka4 := K9_125.out.cell 4 rfl
  have ka5 := K9_125.out.cell 5 rfl
  have ka6 := K9_125.out.cell 6 rfl
  go_wp2_with fail
  refine (kHgb _ HR9.out.o).mono ?_
  rintro e wS ⟨rfl, bb⟩
  clear ka0 ka1 ka2 ka3 ka4 ka5 ka6
  have HA_126 : Hid (Arg w wS ⟨tp, ts⟩ ⟨yh, yt, ya, yv, yn, yd⟩ (.slice p m cap) ⟨h, t, aa, v, n, d⟩ ⟨ch, cr, ci, cl⟩ b cb) := HA_125.out.step bb
  have K0_126 : Hid (Blk wS G0 [.int .i64 gh, .int .i64 gt, .string ga, .string gv, .string gn, .string gd, .slice u0 mg c0] 30) := K0_125.out.below bb K0_125.out.lt
  have R0_126 : Hid (Rr wS wA.heap.size wB.heap.size G0 u0 gl) := R0_125.out.below bb
  have K9_126 : Hid (Blk wS G9 [.int .i64 gh, .int .i64 gt, .string ga, .string gv, .string gn, .string gd, .slice u9 mg c9] 30) := K9_125.out.below bb K9_125.out.lt
  have R9_126 : Hid (Rr wS wG.heap.size wH.heap.size G9 u9 (vmarks ((1 : Nat) : Int) mg)) := HR9.out.below bb
  clear HA_125 K0_125 R0_125 K9_125 HR9
  clear bb
  go_upto_region 41 with fail
  go_cut [24, 25] (fun s s' wx => ∃ (G : Nat) (u : Option Addr) (cu : Nat), s = .pointer (some ⟨G, 0, none⟩) ∧ s' = .int .i64 N ∧ Hid (Lft wS wx G [.int .i64 gh, .int .i64 gt, .string ga, .string gv, .string gn, .string gd, .slice u mg cu] u gl))
  case first =>
    have HBd_wS : Hid (Below wS.heap.size wS wS.drew) := (Below.refl _ _).drew
    refine wp_region_held_drew (S := (fun W : World => (W.cell? ⟨w.heap.size, 0, none⟩ = some (.int .i64 tp) ∧ W.cell? ⟨w.heap.size, 1, none⟩ = some (.int .i64 ts)) ∧ (W.cell? ⟨w.heap.size + 1, 0, none⟩ = some (.int .i64 yh) ∧ W.cell? ⟨w.heap.size + 1, 1, none⟩ = some (.int .i64 yt) ∧ W.cell? ⟨w.heap.size + 1, 2, none⟩ = some (.string ya) ∧ W.cell? ⟨w.heap.size + 1, 3, none⟩ = some (.string yv) ∧ W.cell? ⟨w.heap.size + 1, 4, none⟩ = some (.string yn) ∧ W.cell? ⟨w.heap.size + 1, 5, none⟩ = some (.string yd) ∧ W.cell? ⟨w.heap.size + 1, 6, none⟩ = some (.slice p m cap)) ∧ (W.cell? ⟨w.heap.size + 2, 0, none⟩ = some (.int .i64 h) ∧ W.cell? ⟨w.heap.size + 2, 1, none⟩ = some (.int .i64 t) ∧ W.cell? ⟨w.heap.size + 2, 2, none⟩ = some (.string aa) ∧ W.cell? ⟨w.heap.size + 2, 3, none⟩ = some (.string v) ∧ W.cell? ⟨w.heap.size + 2, 4, none⟩ = some (.string n) ∧ W.cell? ⟨w.heap.size + 2, 5, none⟩ = some (.string d)) ∧ (W.cell? ⟨w.heap.size + 3, 0, none⟩ = some (.int .i64 ch) ∧ W.cell? ⟨w.heap.size + 3, 1, none⟩ = some (.int .i64 cr) ∧ W.cell? ⟨w.heap.size + 3, 2, none⟩ = some (.string ci) ∧ W.cell? ⟨w.heap.size + 3, 3, none⟩ = some (.slice b cl.length cb)))) (by kernel_rfl) ?_ (fun hHeld => ?_)
    · exact hflat _ (HA_126.out.step HBd_wS.out)
    generalize wS.drew = wd at *
    refine wpAnyH_take (i := 0) (oi := { dst := Option.some 137, op := Go.Op.load 44 (Go.Operand.tmp 6), type := 44, pos := "exact.go:4058", after := #[], guard := Option.none }) (v := ?_) rfl (by kernel_rfl) (by kernel_rfl) (by kernel_rfl) (fun _ _ _ h => h) (Or.inl ⟨by rfl, ?_⟩) hHeld ?_
    rotate_left
    · intro w hSw
      try dsimp only at hSw
      go_simp
      try (with_reducible rfl)
    simp only [Act.put, List.setIfInBounds_toArray, List.set_cons_zero, List.set_cons_succ]
    refine wpAnyH_take (i := 2) (oi := { dst := Option.some 139, op := Go.Op.load 48 (Go.Operand.tmp 7), type := 48, pos := "exact.go:4058", after := #[], guard := Option.none }) (v := ?_) rfl (by kernel_rfl) (by kernel_rfl) (by kernel_rfl) (fun _ _ _ h => h) (Or.inl ⟨by rfl, ?_⟩) hHeld ?_
    rotate_left
    · intro w hSw
      try dsimp only at hSw
      go_simp
      try (with_reducible rfl)
    simp only [Act.put, List.setIfInBounds_toArray, List.set_cons_zero, List.set_cons_succ]
    refine wpAnyH_take (i := 4) (oi := { dst := Option.some 141, op := Go.Op.load 45 (Go.Operand.tmp 8), type := 45, pos := "exact.go:4058", after := #[], guard := Option.none }) (v := ?_) rfl (by kernel_rfl) (by kernel_rfl) (by kernel_rfl) (fun _ _ _ h => h) (Or.inl ⟨by rfl, ?_⟩) hHeld ?_
    rotate_left
    · intro w hSw
      try dsimp only at hSw
      go_simp
      try (with_reducible rfl)
    simp only [Act.put, List.setIfInBounds_toArray, List.set_cons_zero, List.set_cons_succ]
    refine wpAnyH_take (i := 6) (oi := { dst := Option.some 143, op := Go.Op.move (Go.Operand.tmp 3), type := 46, pos := "exact.go:4058", after := #[], guard := Option.none }) (v := ?_) rfl (by kernel_rfl) (by kernel_rfl) (by kernel_rfl) (fun _ _ _ h => h) (Or.inl ⟨by rfl, ?_⟩) hHeld ?_
    rotate_left
    · intro w hSw
      try dsimp only at hSw
      go_simp
      try (with_reducible rfl)
    simp only [Act.put, List.setIfInBounds_toArray, List.set_cons_zero, List.set_cons_succ]
    refine wpAnyH_take (i := 8) (oi := { dst := Option.some 145, op := Go.Op.load 51 (Go.Operand.tmp 10), type := 51, pos := "exact.go:4058", after := #[], guard := Option.none }) (v := ?_) rfl (by kernel_rfl) (by kernel_rfl) (by kernel_rfl) (fun _ _ _ h => h) (Or.inl ⟨by rfl, ?_⟩) hHeld ?_
    rotate_left
    · intro w hSw
      try dsimp only at hSw
      go_simp
      try (with_reducible rfl)
    simp only [Act.put, List.setIfInBounds_toArray, List.set_cons_zero, List.set_cons_succ]
    refine wpAnyH_take (i := 10) (oi := { dst := Option.some 147, op := Go.Op.move (Go.Operand.tmp 5), type := 3, pos := "exact.go:4058", after := #[], guard := Option.none }) (v := ?_) rfl (by kernel_rfl) (by kernel_rfl) (by kernel_rfl) (fun _ _ _ h => h) (Or.inl ⟨by rfl, ?_⟩) hHeld ?_
    rotate_left
    · intro w hSw
      try dsimp only at hSw
      go_simp
      try (with_reducible rfl)
    simp only [Act.put, List.setIfInBounds_toArray, List.set_cons_zero, List.set_cons_succ]
    refine wpAnyH_ready (rs := [1, 15]) (by kernel_rfl) (by decide) ?_
    refine AllReadyH.cons (o := { dst := Option.some 138, op := Go.Op.call { callee := Go.Callee.value (Go.Operand.func 18), args := #[Go.Operand.tmp 137], argTypes := #[44] }, type := 25, pos := "exact.go:4058", after := #[{ on := 0, ground := Go.Ground.data }], guard := Option.none }) rfl (fun K hK => ?_) (AllReadyH.cons (o := { dst := Option.some 24, op := Go.Op.alloc 30, type := 0, pos := "exact.go:4058", after := #[], guard := Option.none }) rfl (fun K hK => ?_) AllReadyH.nil)
    · go_simp
      go_at_call 18
      refine (kT _).mono ?_
      rintro e v127 ⟨rfl, b127⟩
      have HB_128 : Hid (Below wS.heap.size wS v127) := HBd_wS.out.trans (b127.mono HBd_wS.out.size)
      clear b127
      refine hK.out _ _ (hflat _ (HA_126.out.step HB_128.out)) (fun hHeld => ?_)
      clear hK K
      try simp only [Act.put, List.setIfInBounds_toArray, List.set_cons_zero, List.set_cons_succ]
      refine wpAnyH_ready (rs := [3, 15]) (by kernel_rfl) (by decide) ?_
      refine AllReadyH.cons (o := { dst := Option.some 140, op := Go.Op.call { callee := Go.Callee.value (Go.Operand.func 19), args := #[Go.Operand.tmp 139], argTypes := #[48] }, type := 30, pos := "exact.go:4058", after := #[{ on := 2, ground := Go.Ground.data }, { on := 1, ground := Go.Ground.chain }], guard := Option.none }) rfl (fun K hK => ?_) (AllReadyH.cons (o := { dst := Option.some 24, op := Go.Op.alloc 30, type := 0, pos := "exact.go:4058", after := #[], guard := Option.none }) rfl (fun K hK => ?_) AllReadyH.nil)
      · go_simp
        go_at_call 19
        refine (kA _ (HL.out.below (HA_126.out.step HB_128.out).2.2.2.2) h20).mono ?_
        rintro e v129 ⟨u1_129, rfl, RU_129, b129⟩
        have HB_130 : Hid (Below wS.heap.size wS v129) := HB_128.out.trans (b129.mono HB_128.out.size)
        clear b129
        refine hK.out _ _ (hflat _ (HA_126.out.step HB_130.out)) (fun hHeld => ?_)
        clear hK K
        try simp only [Act.put, List.setIfInBounds_toArray, List.set_cons_zero, List.set_cons_succ]
        refine wpAnyH_ready (rs := [5, 15]) (by kernel_rfl) (by decide) ?_
        refine AllReadyH.cons (o := { dst := Option.some 142, op := Go.Op.call { callee := Go.Callee.value (Go.Operand.func 20), args := #[Go.Operand.tmp 141], argTypes := #[45] }, type := 27, pos := "exact.go:4058", after := #[{ on := 4, ground := Go.Ground.data }, { on := 3, ground := Go.Ground.chain }], guard := Option.none }) rfl (fun K hK => ?_) (AllReadyH.cons (o := { dst := Option.some 24, op := Go.Op.alloc 30, type := 0, pos := "exact.go:4058", after := #[], guard := Option.none }) rfl (fun K hK => ?_) AllReadyH.nil)
        · go_simp
          go_at_call 20
          refine (kX _).mono ?_
          rintro e v131 ⟨rfl, b131⟩
          have HB_132 : Hid (Below wS.heap.size wS v131) := HB_130.out.trans (b131.mono HB_130.out.size)
          have RU_132 : Hid (Cpv v131 v127.heap.size u1_129 l) := RU_129.out.below b131
          clear b131
          refine hK.out _ _ (hflat _ (HA_126.out.step HB_132.out)) (fun hHeld => ?_)
          clear hK K
          try simp only [Act.put, List.setIfInBounds_toArray, List.set_cons_zero, List.set_cons_succ]
          refine wpAnyH_ready (rs := [7, 15]) (by kernel_rfl) (by decide) ?_
          refine AllReadyH.cons (o := { dst := Option.some 144, op := Go.Op.call { callee := Go.Callee.value (Go.Operand.func 21), args := #[Go.Operand.tmp 143], argTypes := #[46] }, type := 28, pos := "exact.go:4058", after := #[{ on := 6, ground := Go.Ground.data }, { on := 5, ground := Go.Ground.chain }], guard := Option.none }) rfl (fun K hK => ?_) (AllReadyH.cons (o := { dst := Option.some 24, op := Go.Op.alloc 30, type := 0, pos := "exact.go:4058", after := #[], guard := Option.none }) rfl (fun K hK => ?_) AllReadyH.nil)
          · go_simp
            go_at_call 21
            refine (kN _ (HN.out.below (HA_126.out.step HB_132.out).2.2.2.2) hm20).mono ?_
            rintro e v133 ⟨un_133, rfl, RN_133, b133⟩
            have HB_134 : Hid (Below wS.heap.size wS v133) := HB_132.out.trans (b133.mono HB_132.out.size)
            have RU_134 : Hid (Cpv v133 v127.heap.size u1_129 l) := RU_132.out.below b133
            clear b133
            refine hK.out _ _ (hflat _ (HA_126.out.step HB_134.out)) (fun hHeld => ?_)
            clear hK K
            try simp only [Act.put, List.setIfInBounds_toArray, List.set_cons_zero, List.set_cons_succ]
            refine wpAnyH_ready (rs := [9, 15]) (by kernel_rfl) (by decide) ?_
            refine AllReadyH.cons (o := { dst := Option.some 146, op := Go.Op.call { callee := Go.Callee.value (Go.Operand.func 22), args := #[Go.Operand.tmp 145], argTypes := #[51] }, type := 33, pos := "exact.go:4058", after := #[{ on := 8, ground := Go.Ground.data }, { on := 7, ground := Go.Ground.chain }], guard := Option.none }) rfl (fun K hK => ?_) (AllReadyH.cons (o := { dst := Option.some 24, op := Go.Op.alloc 30, type := 0, pos := "exact.go:4058", after := #[], guard := Option.none }) rfl (fun K hK => ?_) AllReadyH.nil)
            · go_simp
              go_at_call 22
              refine (kC _ (HS.out.below (HA_126.out.step HB_134.out).2.2.2.2) hc20).mono ?_
              rintro e v135 ⟨uc_135, rfl, RC_135, b135⟩
              have HB_136 : Hid (Below wS.heap.size wS v135) := HB_134.out.trans (b135.mono HB_134.out.size)
              have RU_136 : Hid (Cpv v135 v127.heap.size u1_129 l) := RU_134.out.below b135
              have RN_136 : Hid (Cpv v135 v131.heap.size un_133 nx) := RN_133.out.below b135
              clear b135
              refine hK.out _ _ (hflat _ (HA_126.out.step HB_136.out)) (fun hHeld => ?_)
              clear hK K
              try simp only [Act.put, List.setIfInBounds_toArray, List.set_cons_zero, List.set_cons_succ]
              refine wpAnyH_ready (rs := [11, 15]) (by kernel_rfl) (by decide) ?_
              refine AllReadyH.cons (o := { dst := Option.some 148, op := Go.Op.call { callee := Go.Callee.value (Go.Operand.func 7), args := #[Go.Operand.tmp 138, Go.Operand.tmp 140, Go.Operand.tmp 142, Go.Operand.tmp 144, Go.Operand.tmp 146, Go.Operand.tmp 147], argTypes := #[25, 30, 27, 28, 33, 3] }, type := 36, pos := "exact.go:4058", after := #[{ on := 1, ground := Go.Ground.data }, { on := 3, ground := Go.Ground.data }, { on := 5, ground := Go.Ground.data }, { on := 7, ground := Go.Ground.data }, { on := 9, ground := Go.Ground.data }, { on := 10, ground := Go.Ground.data }, { on := 9, ground := Go.Ground.chain }], guard := Option.none }) rfl (fun K hK => ?_) (AllReadyH.cons (o := { dst := Option.some 24, op := Go.Op.alloc 30, type := 0, pos := "exact.go:4058", after := #[], guard := Option.none }) rfl (fun K hK => ?_) AllReadyH.nil)
              · go_simp
                go_at_call 7
                refine (kIc u1_129 un_133 uc_135 h20 hm20 _ RU_136.out.o (HPA.out _ _ _ RU_136.out) RN_136.out.o (HPN.out _ _ _ RN_136.out) RC_135.out.o (HT.out.below (HA_126.out.step HB_136.out).2.2.2.2 HT.out.pos)).mono ?_
                rintro e v137 ⟨u_137, cu_137, rfl, ROW_137, b137⟩
                have HB_138 : Hid (Below wS.heap.size wS v137) := HB_136.out.trans (b137.mono HB_136.out.size)
                have RU_138 : Hid (Cpv v137 v127.heap.size u1_129 l) := RU_136.out.below b137
                have RN_138 : Hid (Cpv v137 v131.heap.size un_133 nx) := RN_136.out.below b137
                have RC_138 : Hid (Cop v137 v133.heap.size ⟨ch, cr, ci, cl⟩ uc_135) := RC_135.out.below b137
                have hbs_137 : wS.heap.size ≤ v135.heap.size := HB_136.out.size
                clear b137
                refine hK.out _ _ (hflat _ (HA_126.out.step HB_138.out)) (fun hHeld => ?_)
                clear hK K
                try simp only [Act.put, List.setIfInBounds_toArray, List.set_cons_zero, List.set_cons_succ]
                refine wpAnyH_take (i := 12) (oi := { dst := Option.some 136, op := Go.Op.move (Go.Operand.tmp 148), type := 36, pos := "exact.go:4058", after := #[{ on := 11, ground := Go.Ground.data }], guard := Option.none }) (v := ?_) rfl (by kernel_rfl) (by kernel_rfl) (by kernel_rfl) (fun _ _ _ h => h) (Or.inl ⟨by rfl, ?_⟩) hHeld ?_
                rotate_left
                · intro w hSw
                  try dsimp only at hSw
                  go_simp
                  try (with_reducible rfl)
                simp only [Act.put, List.setIfInBounds_toArray, List.set_cons_zero, List.set_cons_succ]
                refine wpAnyH_take (i := 13) (oi := { dst := Option.some 149, op := Go.Op.extract (Go.Operand.tmp 136) 0, type := 30, pos := "exact.go:4058", after := #[{ on := 12, ground := Go.Ground.data }], guard := Option.none }) (v := ?_) rfl (by kernel_rfl) (by kernel_rfl) (by kernel_rfl) (fun _ _ _ h => h) (Or.inl ⟨by rfl, ?_⟩) hHeld ?_
                rotate_left
                · intro w hSw
                  try dsimp only at hSw
                  go_simp
                  try (with_reducible rfl)
                simp only [Act.put, List.setIfInBounds_toArray, List.set_cons_zero, List.set_cons_succ]
                refine wpAnyH_take (i := 14) (oi := { dst := Option.some 150, op := Go.Op.extract (Go.Operand.tmp 136) 1, type := 3, pos := "exact.go:4058", after := #[{ on := 12, ground := Go.Ground.data }, { on := 16, ground := Go.Ground.gcOnly Go.Departure.lateStores }], guard := Option.none }) (v := ?_) rfl (by kernel_rfl) (by kernel_rfl) (by kernel_rfl) (fun _ _ _ h => h) (Or.inl ⟨by rfl, ?_⟩) hHeld ?_
                rotate_left
                · intro w hSw
                  try dsimp only at hSw
                  go_simp
                  try (with_reducible rfl)
                simp only [Act.put, List.setIfInBounds_toArray, List.set_cons_zero, List.set_cons_succ]
                refine wpAnyH_ready (rs := [15]) (by kernel_rfl) (by decide) ?_
                refine AllReadyH.cons (o := { dst := Option.some 24, op := Go.Op.alloc 30, type := 0, pos := "exact.go:4058", after := #[], guard := Option.none }) rfl (fun K hK => ?_) AllReadyH.nil
                have bA_139 : Below v137.heap.size v137 (v137.alloc (.cells [.int .i64 0, .int .i64 0, .string ⟨#[]⟩, .string ⟨#[]⟩, .string ⟨#[]⟩, .string ⟨#[]⟩, .slice none 0 0].toArray 30)) := below_one _ _
                have RR_139 : Hid (Rr v137 v135.heap.size v137.heap.size v137.heap.size u_137 gl) := OwnV.rr ROW_137.out (Nat.le_refl _) (fun b h1 h2 => by omega)
                have HB_140 : Hid (Below wS.heap.size wS (v137.alloc (.cells [.int .i64 0, .int .i64 0, .string ⟨#[]⟩, .string ⟨#[]⟩, .string ⟨#[]⟩, .string ⟨#[]⟩, .slice none 0 0].toArray 30))) := HB_138.out.trans (bA_139.mono HB_138.out.size)
                have RU_140 : Hid (Cpv (v137.alloc (.cells [.int .i64 0, .int .i64 0, .string ⟨#[]⟩, .string ⟨#[]⟩, .string ⟨#[]⟩, .string ⟨#[]⟩, .slice none 0 0].toArray 30)) v127.heap.size u1_129 l) := RU_138.out.below bA_139
                have RN_140 : Hid (Cpv (v137.alloc (.cells [.int .i64 0, .int .i64 0, .string ⟨#[]⟩, .string ⟨#[]⟩, .string ⟨#[]⟩, .string ⟨#[]⟩, .slice none 0 0].toArray 30)) v131.heap.size un_133 nx) := RN_138.out.below bA_139
                have RC_140 : Hid (Cop (v137.alloc (.cells [.int .i64 0, .int .i64 0, .string ⟨#[]⟩, .string ⟨#[]⟩, .string ⟨#[]⟩, .string ⟨#[]⟩, .slice none 0 0].toArray 30)) v133.heap.size ⟨ch, cr, ci, cl⟩ uc_135) := RC_138.out.below bA_139
                have RR_140 : Hid (Rr (v137.alloc (.cells [.int .i64 0, .int .i64 0, .string ⟨#[]⟩, .string ⟨#[]⟩, .string ⟨#[]⟩, .string ⟨#[]⟩, .slice none 0 0].toArray 30)) v135.heap.size v137.heap.size v137.heap.size u_137 gl) := RR_139.out.below bA_139
                have K_139 : Hid (Blk (v137.alloc (.cells [.int .i64 0, .int .i64 0, .string ⟨#[]⟩, .string ⟨#[]⟩, .string ⟨#[]⟩, .string ⟨#[]⟩, .slice none 0 0].toArray 30)) v137.heap.size [.int .i64 0, .int .i64 0, .string ⟨#[]⟩, .string ⟨#[]⟩, .string ⟨#[]⟩, .string ⟨#[]⟩, .slice none 0 0] 30) := blk_new v137 _ _
                have hG_139 : wS.heap.size ≤ v137.heap.size := HB_138.out.size
                go_simp
                generalize v137.alloc (Obj.cells [.int .i64 0, .int .i64 0, .string ⟨#[]⟩, .string ⟨#[]⟩, .string ⟨#[]⟩, .string ⟨#[]⟩, .slice none 0 0].toArray 30) = wz_139 at *
                refine hK.out _ _ (hflat _ (HA_126.out.step HB_140.out)) (fun hHeld => ?_)
                clear hK K
                try simp only [Act.put, List.setIfInBounds_toArray, List.set_cons_zero, List.set_cons_succ]
                refine wpAnyH_ready (rs := [16]) (by kernel_rfl) (by decide) ?_
                refine AllReadyH.cons (o := { dst := Option.none, op := Go.Op.store 30 (Go.Operand.tmp 24) (Go.Operand.tmp 149), type := 0, pos := "exact.go:4058", after := #[{ on := 15, ground := Go.Ground.data }, { on := 13, ground := Go.Ground.data }, { on := 11, ground := Go.Ground.chain }, { on := 0, ground := Go.Ground.phase }, { on := 1, ground := Go.Ground.phase }, { on := 2, ground := Go.Ground.phase }, { on := 3, ground := Go.Ground.phase }, { on := 4, ground := Go.Ground.phase }, { on := 5, ground := Go.Ground.phase }, { on := 6, ground := Go.Ground.phase }, { on := 7, ground := Go.Ground.phase }, { on := 8, ground := Go.Ground.phase }, { on := 9, ground := Go.Ground.phase }, { on := 10, ground := Go.Ground.phase }, { on := 11, ground := Go.Ground.phase }, { on := 12, ground := Go.Ground.phase }, { on := 13, ground := Go.Ground.phase }, { on := 14, ground := Go.Ground.textOnly Go.Departure.lateStores }, { on := 15, ground := Go.Ground.phase }], guard := Option.none }) rfl (fun K hK => ?_) AllReadyH.nil
                have RS_141 := RR_140.out
                have RF_141 : Hid (Rr (((((((wz_139.setCell ⟨v137.heap.size, 0, none⟩ (.int .i64 gh)).setCell ⟨v137.heap.size, 1, none⟩ (.int .i64 gt)).setCell ⟨v137.heap.size, 2, none⟩ (.string ga)).setCell ⟨v137.heap.size, 3, none⟩ (.string gv)).setCell ⟨v137.heap.size, 4, none⟩ (.string gn)).setCell ⟨v137.heap.size, 5, none⟩ (.string gd)).setCell ⟨v137.heap.size, 6, none⟩ (.slice u_137 mg cu_137)) wS.heap.size v137.heap.size v137.heap.size u_137 gl) := (((((((RS_141.set 0 _).set 1 _).set 2 _).set 3 _).set 4 _).set 5 _).set 6 _).low (by omega)
                have KF_141 : Hid (Blk (((((((wz_139.setCell ⟨v137.heap.size, 0, none⟩ (.int .i64 gh)).setCell ⟨v137.heap.size, 1, none⟩ (.int .i64 gt)).setCell ⟨v137.heap.size, 2, none⟩ (.string ga)).setCell ⟨v137.heap.size, 3, none⟩ (.string gv)).setCell ⟨v137.heap.size, 4, none⟩ (.string gn)).setCell ⟨v137.heap.size, 5, none⟩ (.string gd)).setCell ⟨v137.heap.size, 6, none⟩ (.slice u_137 mg cu_137)) v137.heap.size [.int .i64 gh, .int .i64 gt, .string ga, .string gv, .string gn, .string gd, .slice u_137 mg cu_137] 30) := (((((((K_139.out.set 0 _).set 1 _).set 2 _).set 3 _).set 4 _).set 5 _).set 6 _)
                have HB_141 : Hid (Below wS.heap.size wS (((((((wz_139.setCell ⟨v137.heap.size, 0, none⟩ (.int .i64 gh)).setCell ⟨v137.heap.size, 1, none⟩ (.int .i64 gt)).setCell ⟨v137.heap.size, 2, none⟩ (.string ga)).setCell ⟨v137.heap.size, 3, none⟩ (.string gv)).setCell ⟨v137.heap.size, 4, none⟩ (.string gn)).setCell ⟨v137.heap.size, 5, none⟩ (.string gd)).setCell ⟨v137.heap.size, 6, none⟩ (.slice u_137 mg cu_137))) := (((((((HB_140.out.setCell (p := ⟨v137.heap.size, 0, none⟩) hG_139 _).setCell (p := ⟨v137.heap.size, 1, none⟩) hG_139 _).setCell (p := ⟨v137.heap.size, 2, none⟩) hG_139 _).setCell (p := ⟨v137.heap.size, 3, none⟩) hG_139 _).setCell (p := ⟨v137.heap.size, 4, none⟩) hG_139 _).setCell (p := ⟨v137.heap.size, 5, none⟩) hG_139 _).setCell (p := ⟨v137.heap.size, 6, none⟩) hG_139 _)
                have p_141_0 := K_139.out.cell 0 rfl
                have p_141_1 := K_139.out.cell 1 rfl
                have p_141_2 := K_139.out.cell 2 rfl
                have p_141_3 := K_139.out.cell 3 rfl
                have p_141_4 := K_139.out.cell 4 rfl
                have p_141_5 := K_139.out.cell 5 rfl
                have p_141_6 := K_139.out.cell 6 rfl
                have pf_141 := fun q => K_139.out.frozen q
                go_simp
                refine hK.out _ _ (hflat _ (HA_126.out.step HB_141.out)) (fun hHeld => ?_)
                clear hK K
                try simp only [Act.put, List.setIfInBounds_toArray, List.set_cons_zero, List.set_cons_succ]
                refine wpAnyH_take (i := 17) (oi := { dst := Option.some 25, op := Go.Op.assign (Go.Operand.tmp 150), type := 3, pos := "exact.go:4058", after := #[{ on := 14, ground := Go.Ground.data }, { on := 16, ground := Go.Ground.chain }, { on := 0, ground := Go.Ground.phase }, { on := 1, ground := Go.Ground.phase }, { on := 2, ground := Go.Ground.phase }, { on := 3, ground := Go.Ground.phase }, { on := 4, ground := Go.Ground.phase }, { on := 5, ground := Go.Ground.phase }, { on := 6, ground := Go.Ground.phase }, { on := 7, ground := Go.Ground.phase }, { on := 8, ground := Go.Ground.phase }, { on := 9, ground := Go.Ground.phase }, { on := 10, ground := Go.Ground.phase }, { on := 11, ground := Go.Ground.phase }, { on := 12, ground := Go.Ground.phase }, { on := 13, ground := Go.Ground.phase }, { on := 14, ground := Go.Ground.phase }, { on := 15, ground := Go.Ground.phase }, { on := 16, ground := Go.Ground.phase }], guard := Option.none }) (v := ?_) rfl (by kernel_rfl) (by kernel_rfl) (by kernel_rfl) (fun _ _ _ h => h) (Or.inl ⟨by rfl, ?_⟩) hHeld ?_
                rotate_left
                · intro w hSw
                  try dsimp only at hSw
                  go_simp
                  try (with_reducible rfl)
                simp only [Act.put, List.setIfInBounds_toArray, List.set_cons_zero, List.set_cons_succ]
                refine wpAnyH_done (by kernel_rfl) ?_ _
                go_wp2_with fail
                go_meet
                exact ⟨v137.heap.size, u_137, cu_137, rfl, rfl, ⟨⟨hG_139, KF_141.out⟩, RF_141.out.top, HB_141.out⟩⟩
              · have bA_142 : Below v135.heap.size v135 (v135.alloc (.cells [.int .i64 0, .int .i64 0, .string ⟨#[]⟩, .string ⟨#[]⟩, .string ⟨#[]⟩, .string ⟨#[]⟩, .slice none 0 0].toArray 30)) := below_one _ _
                have HB_143 : Hid (Below wS.heap.size wS (v135.alloc (.cells [.int .i64 0, .int .i64 0, .string ⟨#[]⟩, .string ⟨#[]⟩, .string ⟨#[]⟩, .string ⟨#[]⟩, .slice none 0 0].toArray 30))) := HB_136.out.trans (bA_142.mono HB_136.out.size)
                have RU_143 : Hid (Cpv (v135.alloc (.cells [.int .i64 0, .int .i64 0, .string ⟨#[]⟩, .string ⟨#[]⟩, .string ⟨#[]⟩, .string ⟨#[]⟩, .slice none 0 0].toArray 30)) v127.heap.size u1_129 l) := RU_136.out.below bA_142
                have RN_143 : Hid (Cpv (v135.alloc (.cells [.int .i64 0, .int .i64 0, .string ⟨#[]⟩, .string ⟨#[]⟩, .string ⟨#[]⟩, .string ⟨#[]⟩, .slice none 0 0].toArray 30)) v131.heap.size un_133 nx) := RN_136.out.below bA_142
                have RC_143 : Hid (Cop (v135.alloc (.cells [.int .i64 0, .int .i64 0, .string ⟨#[]⟩, .string ⟨#[]⟩, .string ⟨#[]⟩, .string ⟨#[]⟩, .slice none 0 0].toArray 30)) v133.heap.size ⟨ch, cr, ci, cl⟩ uc_135) := RC_135.out.below bA_142
                have K_142 : Hid (Blk (v135.alloc (.cells [.int .i64 0, .int .i64 0, .string ⟨#[]⟩, .string ⟨#[]⟩, .string ⟨#[]⟩, .string ⟨#[]⟩, .slice none 0 0].toArray 30)) v135.heap.size [.int .i64 0, .int .i64 0, .string ⟨#[]⟩, .string ⟨#[]⟩, .string ⟨#[]⟩, .string ⟨#[]⟩, .slice none 0 0] 30) := blk_new v135 _ _
                have hG_142 : wS.heap.size ≤ v135.heap.size := HB_136.out.size
                go_simp
                generalize v135.alloc (Obj.cells [.int .i64 0, .int .i64 0, .string ⟨#[]⟩, .string ⟨#[]⟩, .string ⟨#[]⟩, .string ⟨#[]⟩, .slice none 0 0].toArray 30) = wz_142 at *
                refine hK.out _ _ (hflat _ (HA_126.out.step HB_143.out)) (fun hHeld => ?_)
                clear hK K
                try simp only [Act.put, List.setIfInBounds_toArray, List.set_cons_zero, List.set_cons_succ]
                refine wpAnyH_ready (rs := [11]) (by kernel_rfl) (by decide) ?_
                refine AllReadyH.cons (o := { dst := Option.some 148, op := Go.Op.call { callee := Go.Callee.value (Go.Operand.func 7), args := #[Go.Operand.tmp 138, Go.Operand.tmp 140, Go.Operand.tmp 142, Go.Operand.tmp 144, Go.Operand.tmp 146, Go.Operand.tmp 147], argTypes := #[25, 30, 27, 28, 33, 3] }, type := 36, pos := "exact.go:4058", after := #[{ on := 1, ground := Go.Ground.data }, { on := 3, ground := Go.Ground.data }, { on := 5, ground := Go.Ground.data }, { on := 7, ground := Go.Ground.data }, { on := 9, ground := Go.Ground.data }, { on := 10, ground := Go.Ground.data }, { on := 9, ground := Go.Ground.chain }], guard := Option.none }) rfl (fun K hK => ?_) AllReadyH.nil
                go_simp
                go_at_call 7
                refine (kIc u1_129 un_133 uc_135 h20 hm20 _ RU_143.out.o (HPA.out _ _ _ RU_143.out) RN_143.out.o (HPN.out _ _ _ RN_143.out) RC_143.out.o (HT.out.below (HA_126.out.step HB_143.out).2.2.2.2 HT.out.pos)).mono ?_
                rintro e v144 ⟨u_144, cu_144, rfl, ROW_144, b144⟩
                have HB_145 : Hid (Below wS.heap.size wS v144) := HB_143.out.trans (b144.mono HB_143.out.size)
                have RU_145 : Hid (Cpv v144 v127.heap.size u1_129 l) := RU_143.out.below b144
                have RN_145 : Hid (Cpv v144 v131.heap.size un_133 nx) := RN_143.out.below b144
                have RC_145 : Hid (Cop v144 v133.heap.size ⟨ch, cr, ci, cl⟩ uc_135) := RC_143.out.below b144
                have K_145 : Hid (Blk v144 v135.heap.size [.int .i64 0, .int .i64 0, .string ⟨#[]⟩, .string ⟨#[]⟩, .string ⟨#[]⟩, .string ⟨#[]⟩, .slice none 0 0] 30) := K_142.out.below b144 K_142.out.lt
                have hbs_144 : wS.heap.size ≤ wz_142.heap.size := HB_143.out.size
                clear b144
                have hGb_144 : v135.heap.size < wz_142.heap.size := K_142.out.lt
                refine hK.out _ _ (hflat _ (HA_126.out.step HB_145.out)) (fun hHeld => ?_)
                clear hK K
                try simp only [Act.put, List.setIfInBounds_toArray, List.set_cons_zero, List.set_cons_succ]
                refine wpAnyH_take (i := 12) (oi := { dst := Option.some 136, op := Go.Op.move (Go.Operand.tmp 148), type := 36, pos := "exact.go:4058", after := #[{ on := 11, ground := Go.Ground.data }], guard := Option.none }) (v := ?_) rfl (by kernel_rfl) (by kernel_rfl) (by kernel_rfl) (fun _ _ _ h => h) (Or.inl ⟨by rfl, ?_⟩) hHeld ?_
                rotate_left
                · intro w hSw
                  try dsimp only at hSw
                  go_simp
                  try (with_reducible rfl)
                simp only [Act.put, List.setIfInBounds_toArray, List.set_cons_zero, List.set_cons_succ]
                refine wpAnyH_take (i := 13) (oi := { dst := Option.some 149, op := Go.Op.extract (Go.Operand.tmp 136) 0, type := 30, pos := "exact.go:4058", after := #[{ on := 12, ground := Go.Ground.data }], guard := Option.none }) (v := ?_) rfl (by kernel_rfl) (by kernel_rfl) (by kernel_rfl) (fun _ _ _ h => h) (Or.inl ⟨by rfl, ?_⟩) hHeld ?_
                rotate_left
                · intro w hSw
                  try dsimp only at hSw
                  go_simp
                  try (with_reducible rfl)
                simp only [Act.put, List.setIfInBounds_toArray, List.set_cons_zero, List.set_cons_succ]
                refine wpAnyH_take (i := 14) (oi := { dst := Option.some 150, op := Go.Op.extract (Go.Operand.tmp 136) 1, type := 3, pos := "exact.go:4058", after := #[{ on := 12, ground := Go.Ground.data }, { on := 16, ground := Go.Ground.gcOnly Go.Departure.lateStores }], guard := Option.none }) (v := ?_) rfl (by kernel_rfl) (by kernel_rfl) (by kernel_rfl) (fun _ _ _ h => h) (Or.inl ⟨by rfl, ?_⟩) hHeld ?_
                rotate_left
                · intro w hSw
                  try dsimp only at hSw
                  go_simp
                  try (with_reducible rfl)
                simp only [Act.put, List.setIfInBounds_toArray, List.set_cons_zero, List.set_cons_succ]
                refine wpAnyH_ready (rs := [16]) (by kernel_rfl) (by decide) ?_
                refine AllReadyH.cons (o := { dst := Option.none, op := Go.Op.store 30 (Go.Operand.tmp 24) (Go.Operand.tmp 149), type := 0, pos := "exact.go:4058", after := #[{ on := 15, ground := Go.Ground.data }, { on := 13, ground := Go.Ground.data }, { on := 11, ground := Go.Ground.chain }, { on := 0, ground := Go.Ground.phase }, { on := 1, ground := Go.Ground.phase }, { on := 2, ground := Go.Ground.phase }, { on := 3, ground := Go.Ground.phase }, { on := 4, ground := Go.Ground.phase }, { on := 5, ground := Go.Ground.phase }, { on := 6, ground := Go.Ground.phase }, { on := 7, ground := Go.Ground.phase }, { on := 8, ground := Go.Ground.phase }, { on := 9, ground := Go.Ground.phase }, { on := 10, ground := Go.Ground.phase }, { on := 11, ground := Go.Ground.phase }, { on := 12, ground := Go.Ground.phase }, { on := 13, ground := Go.Ground.phase }, { on := 14, ground := Go.Ground.textOnly Go.Departure.lateStores }, { on := 15, ground := Go.Ground.phase }], guard := Option.none }) rfl (fun K hK => ?_) AllReadyH.nil
                have RS_146 : Rr v144 wz_142.heap.size v144.heap.size v135.heap.size u_144 gl := OwnV.rr ROW_144.out (Nat.le_refl _) (fun b h1 h2 => by omega)
                have RF_146 : Hid (Rr (((((((v144.setCell ⟨v135.heap.size, 0, none⟩ (.int .i64 gh)).setCell ⟨v135.heap.size, 1, none⟩ (.int .i64 gt)).setCell ⟨v135.heap.size, 2, none⟩ (.string ga)).setCell ⟨v135.heap.size, 3, none⟩ (.string gv)).setCell ⟨v135.heap.size, 4, none⟩ (.string gn)).setCell ⟨v135.heap.size, 5, none⟩ (.string gd)).setCell ⟨v135.heap.size, 6, none⟩ (.slice u_144 mg cu_144)) wS.heap.size v144.heap.size v135.heap.size u_144 gl) := (((((((RS_146.set 0 _).set 1 _).set 2 _).set 3 _).set 4 _).set 5 _).set 6 _).low (by omega)
                have KF_146 : Hid (Blk (((((((v144.setCell ⟨v135.heap.size, 0, none⟩ (.int .i64 gh)).setCell ⟨v135.heap.size, 1, none⟩ (.int .i64 gt)).setCell ⟨v135.heap.size, 2, none⟩ (.string ga)).setCell ⟨v135.heap.size, 3, none⟩ (.string gv)).setCell ⟨v135.heap.size, 4, none⟩ (.string gn)).setCell ⟨v135.heap.size, 5, none⟩ (.string gd)).setCell ⟨v135.heap.size, 6, none⟩ (.slice u_144 mg cu_144)) v135.heap.size [.int .i64 gh, .int .i64 gt, .string ga, .string gv, .string gn, .string gd, .slice u_144 mg cu_144] 30) := (((((((K_145.out.set 0 _).set 1 _).set 2 _).set 3 _).set 4 _).set 5 _).set 6 _)
                have HB_146 : Hid (Below wS.heap.size wS (((((((v144.setCell ⟨v135.heap.size, 0, none⟩ (.int .i64 gh)).setCell ⟨v135.heap.size, 1, none⟩ (.int .i64 gt)).setCell ⟨v135.heap.size, 2, none⟩ (.string ga)).setCell ⟨v135.heap.size, 3, none⟩ (.string gv)).setCell ⟨v135.heap.size, 4, none⟩ (.string gn)).setCell ⟨v135.heap.size, 5, none⟩ (.string gd)).setCell ⟨v135.heap.size, 6, none⟩ (.slice u_144 mg cu_144))) := (((((((HB_145.out.setCell (p := ⟨v135.heap.size, 0, none⟩) hG_142 _).setCell (p := ⟨v135.heap.size, 1, none⟩) hG_142 _).setCell (p := ⟨v135.heap.size, 2, none⟩) hG_142 _).setCell (p := ⟨v135.heap.size, 3, none⟩) hG_142 _).setCell (p := ⟨v135.heap.size, 4, none⟩) hG_142 _).setCell (p := ⟨v135.heap.size, 5, none⟩) hG_142 _).setCell (p := ⟨v135.heap.size, 6, none⟩) hG_142 _)
                have p_146_0 := K_145.out.cell 0 rfl
                have p_146_1 := K_145.out.cell 1 rfl
                have p_146_2 := K_145.out.cell 2 rfl
                have p_146_3 := K_145.out.cell 3 rfl
                have p_146_4 := K_145.out.cell 4 rfl
                have p_146_5 := K_145.out.cell 5 rfl
                have p_146_6 := K_145.out.cell 6 rfl
                have pf_146 := fun q => K_145.out.frozen q
                go_simp
                refine hK.out _ _ (hflat _ (HA_126.out.step HB_146.out)) (fun hHeld => ?_)
                clear hK K
                try simp only [Act.put, List.setIfInBounds_toArray, List.set_cons_zero, List.set_cons_succ]
                refine wpAnyH_take (i := 17) (oi := { dst := Option.some 25, op := Go.Op.assign (Go.Operand.tmp 150), type := 3, pos := "exact.go:4058", after := #[{ on := 14, ground := Go.Ground.data }, { on := 16, ground := Go.Ground.chain }, { on := 0, ground := Go.Ground.phase }, { on := 1, ground := Go.Ground.phase }, { on := 2, ground := Go.Ground.phase }, { on := 3, ground := Go.Ground.phase }, { on := 4, ground := Go.Ground.phase }, { on := 5, ground := Go.Ground.phase }, { on := 6, ground := Go.Ground.phase }, { on := 7, ground := Go.Ground.phase }, { on := 8, ground := Go.Ground.phase }, { on := 9, ground := Go.Ground.phase }, { on := 10, ground := Go.Ground.phase }, { on := 11, ground := Go.Ground.phase }, { on := 12, ground := Go.Ground.phase }, { on := 13, ground := Go.Ground.phase }, { on := 14, ground := Go.Ground.phase }, { on := 15, ground := Go.Ground.phase }, { on := 16, ground := Go.Ground.phase }], guard := Option.none }) (v := ?_) rfl (by kernel_rfl) (by kernel_rfl) (by kernel_rfl) (fun _ _ _ h => h) (Or.inl ⟨by rfl, ?_⟩) hHeld ?_
                rotate_left
                · intro w hSw
                  try dsimp only at hSw
                  go_simp
                  try (with_reducible rfl)
                simp only [Act.put, List.setIfInBounds_toArray, List.set_cons_zero, List.set_cons_succ]
                refine wpAnyH_done (by kernel_rfl) ?_ _
                go_wp2_with fail
                go_meet
                exact ⟨v135.heap.size, u_144, cu_144, rfl, rfl, ⟨⟨hG_142, KF_146.out⟩, RF_146.out.top, HB_146.out⟩⟩
            · have bA_147 : Below v133.heap.size v133 (v133.alloc (.cells [.int .i64 0, .int .i64 0, .string ⟨#[]⟩, .string ⟨#[]⟩, .string ⟨#[]⟩, .string ⟨#[]⟩, .slice none 0 0].toArray 30)) := below_one _ _
              have HB_148 : Hid (Below wS.heap.size wS (v133.alloc (.cells [.int .i64 0, .int .i64 0, .string ⟨#[]⟩, .string ⟨#[]⟩, .string ⟨#[]⟩, .string ⟨#[]⟩, .slice none 0 0].toArray 30))) := HB_134.out.trans (bA_147.mono HB_134.out.size)
              have RU_148 : Hid (Cpv (v133.alloc (.cells [.int .i64 0, .int .i64 0, .string ⟨#[]⟩, .string ⟨#[]⟩, .string ⟨#[]⟩, .string ⟨#[]⟩, .slice none 0 0].toArray 30)) v127.heap.size u1_129 l) := RU_134.out.below bA_147
              have RN_148 : Hid (Cpv (v133.alloc (.cells [.int .i64 0, .int .i64 0, .string ⟨#[]⟩, .string ⟨#[]⟩, .string ⟨#[]⟩, .string ⟨#[]⟩, .slice none 0 0].toArray 30)) v131.heap.size un_133 nx) := RN_133.out.below bA_147
              have K_147 : Hid (Blk (v133.alloc (.cells [.int .i64 0, .int .i64 0, .string ⟨#[]⟩, .string ⟨#[]⟩, .string ⟨#[]⟩, .string ⟨#[]⟩, .slice none 0 0].toArray 30)) v133.heap.size [.int .i64 0, .int .i64 0, .string ⟨#[]⟩, .string ⟨#[]⟩, .string ⟨#[]⟩, .string ⟨#[]⟩, .slice none 0 0] 30) := blk_new v133 _ _
              have hG_147 : wS.heap.size ≤ v133.heap.size := HB_134.out.size
              go_simp
              generalize v133.alloc (Obj.cells [.int .i64 0, .int .i64 0, .string ⟨#[]⟩, .string ⟨#[]⟩, .string ⟨#[]⟩, .string ⟨#[]⟩, .slice none 0 0].toArray 30) = wz_147 at *
              refine hK.out _ _ (hflat _ (HA_126.out.step HB_148.out)) (fun hHeld => ?_)
              clear hK K
              try simp only [Act.put, List.setIfInBounds_toArray, List.set_cons_zero, List.set_cons_succ]
              refine wpAnyH_ready (rs := [9]) (by kernel_rfl) (by decide) ?_
              refine AllReadyH.cons (o := { dst := Option.some 146, op := Go.Op.call { callee := Go.Callee.value (Go.Operand.func 22), args := #[Go.Operand.tmp 145], argTypes := #[51] }, type := 33, pos := "exact.go:4058", after := #[{ on := 8, ground := Go.Ground.data }, { on := 7, ground := Go.Ground.chain }], guard := Option.none }) rfl (fun K hK => ?_) AllReadyH.nil
              go_simp
              go_at_call 22
              refine (kC _ (HS.out.below (HA_126.out.step HB_148.out).2.2.2.2) hc20).mono ?_
              rintro e v149 ⟨uc_149, rfl, RC_149, b149⟩
              have HB_150 : Hid (Below wS.heap.size wS v149) := HB_148.out.trans (b149.mono HB_148.out.size)
              have RU_150 : Hid (Cpv v149 v127.heap.size u1_129 l) := RU_148.out.below b149
              have RN_150 : Hid (Cpv v149 v131.heap.size un_133 nx) := RN_148.out.below b149
              have K_150 : Hid (Blk v149 v133.heap.size [.int .i64 0, .int .i64 0, .string ⟨#[]⟩, .string ⟨#[]⟩, .string ⟨#[]⟩, .string ⟨#[]⟩, .slice none 0 0] 30) := K_147.out.below b149 K_147.out.lt
              clear b149
              refine hK.out _ _ (hflat _ (HA_126.out.step HB_150.out)) (fun hHeld => ?_)
              clear hK K
              try simp only [Act.put, List.setIfInBounds_toArray, List.set_cons_zero, List.set_cons_succ]
              refine wpAnyH_ready (rs := [11]) (by kernel_rfl) (by decide) ?_
              refine AllReadyH.cons (o := { dst := Option.some 148, op := Go.Op.call { callee := Go.Callee.value (Go.Operand.func 7), args := #[Go.Operand.tmp 138, Go.Operand.tmp 140, Go.Operand.tmp 142, Go.Operand.tmp 144, Go.Operand.tmp 146, Go.Operand.tmp 147], argTypes := #[25, 30, 27, 28, 33, 3] }, type := 36, pos := "exact.go:4058", after := #[{ on := 1, ground := Go.Ground.data }, { on := 3, ground := Go.Ground.data }, { on := 5, ground := Go.Ground.data }, { on := 7, ground := Go.Ground.data }, { on := 9, ground := Go.Ground.data }, { on := 10, ground := Go.Ground.data }, { on := 9, ground := Go.Ground.chain }], guard := Option.none }) rfl (fun K hK => ?_) AllReadyH.nil
              go_simp
              go_at_call 7
              refine (kIc u1_129 un_133 uc_149 h20 hm20 _ RU_150.out.o (HPA.out _ _ _ RU_150.out) RN_150.out.o (HPN.out _ _ _ RN_150.out) RC_149.out.o (HT.out.below (HA_126.out.step HB_150.out).2.2.2.2 HT.out.pos)).mono ?_
              rintro e v151 ⟨u_151, cu_151, rfl, ROW_151, b151⟩
              have HB_152 : Hid (Below wS.heap.size wS v151) := HB_150.out.trans (b151.mono HB_150.out.size)
              have RU_152 : Hid (Cpv v151 v127.heap.size u1_129 l) := RU_150.out.below b151
              have RN_152 : Hid (Cpv v151 v131.heap.size un_133 nx) := RN_150.out.below b151
              have K_152 : Hid (Blk v151 v133.heap.size [.int .i64 0, .int .i64 0, .string ⟨#[]⟩, .string ⟨#[]⟩, .string ⟨#[]⟩, .string ⟨#[]⟩, .slice none 0 0] 30) := K_150.out.below b151 K_150.out.lt
              have RC_152 : Hid (Cop v151 wz_147.heap.size ⟨ch, cr, ci, cl⟩ uc_149) := RC_149.out.below b151
              have hbs_151 : wS.heap.size ≤ v149.heap.size := HB_150.out.size
              clear b151
              have hGb_151 : v133.heap.size < v149.heap.size := K_150.out.lt
              refine hK.out _ _ (hflat _ (HA_126.out.step HB_152.out)) (fun hHeld => ?_)
              clear hK K
              try simp only [Act.put, List.setIfInBounds_toArray, List.set_cons_zero, List.set_cons_succ]
              refine wpAnyH_take (i := 12) (oi := { dst := Option.some 136, op := Go.Op.move (Go.Operand.tmp 148), type := 36, pos := "exact.go:4058", after := #[{ on := 11, ground := Go.Ground.data }], guard := Option.none }) (v := ?_) rfl (by kernel_rfl) (by kernel_rfl) (by kernel_rfl) (fun _ _ _ h => h) (Or.inl ⟨by rfl, ?_⟩) hHeld ?_
              rotate_left
              · intro w hSw
                try dsimp only at hSw
                go_simp
                try (with_reducible rfl)
              simp only [Act.put, List.setIfInBounds_toArray, List.set_cons_zero, List.set_cons_succ]
              refine wpAnyH_take (i := 13) (oi := { dst := Option.some 149, op := Go.Op.extract (Go.Operand.tmp 136) 0, type := 30, pos := "exact.go:4058", after := #[{ on := 12, ground := Go.Ground.data }], guard := Option.none }) (v := ?_) rfl (by kernel_rfl) (by kernel_rfl) (by kernel_rfl) (fun _ _ _ h => h) (Or.inl ⟨by rfl, ?_⟩) hHeld ?_
              rotate_left
              · intro w hSw
                try dsimp only at hSw
                go_simp
                try (with_reducible rfl)
              simp only [Act.put, List.setIfInBounds_toArray, List.set_cons_zero, List.set_cons_succ]
              refine wpAnyH_take (i := 14) (oi := { dst := Option.some 150, op := Go.Op.extract (Go.Operand.tmp 136) 1, type := 3, pos := "exact.go:4058", after := #[{ on := 12, ground := Go.Ground.data }, { on := 16, ground := Go.Ground.gcOnly Go.Departure.lateStores }], guard := Option.none }) (v := ?_) rfl (by kernel_rfl) (by kernel_rfl) (by kernel_rfl) (fun _ _ _ h => h) (Or.inl ⟨by rfl, ?_⟩) hHeld ?_
              rotate_left
              · intro w hSw
                try dsimp only at hSw
                go_simp
                try (with_reducible rfl)
              simp only [Act.put, List.setIfInBounds_toArray, List.set_cons_zero, List.set_cons_succ]
              refine wpAnyH_ready (rs := [16]) (by kernel_rfl) (by decide) ?_
              refine AllReadyH.cons (o := { dst := Option.none, op := Go.Op.store 30 (Go.Operand.tmp 24) (Go.Operand.tmp 149), type := 0, pos := "exact.go:4058", after := #[{ on := 15, ground := Go.Ground.data }, { on := 13, ground := Go.Ground.data }, { on := 11, ground := Go.Ground.chain }, { on := 0, ground := Go.Ground.phase }, { on := 1, ground := Go.Ground.phase }, { on := 2, ground := Go.Ground.phase }, { on := 3, ground := Go.Ground.phase }, { on := 4, ground := Go.Ground.phase }, { on := 5, ground := Go.Ground.phase }, { on := 6, ground := Go.Ground.phase }, { on := 7, ground := Go.Ground.phase }, { on := 8, ground := Go.Ground.phase }, { on := 9, ground := Go.Ground.phase }, { on := 10, ground := Go.Ground.phase }, { on := 11, ground := Go.Ground.phase }, { on := 12, ground := Go.Ground.phase }, { on := 13, ground := Go.Ground.phase }, { on := 14, ground := Go.Ground.textOnly Go.Departure.lateStores }, { on := 15, ground := Go.Ground.phase }], guard := Option.none }) rfl (fun K hK => ?_) AllReadyH.nil
              have RS_153 : Rr v151 v149.heap.size v151.heap.size v133.heap.size u_151 gl := OwnV.rr ROW_151.out (Nat.le_refl _) (fun b h1 h2 => by omega)
              have RF_153 : Hid (Rr (((((((v151.setCell ⟨v133.heap.size, 0, none⟩ (.int .i64 gh)).setCell ⟨v133.heap.size, 1, none⟩ (.int .i64 gt)).setCell ⟨v133.heap.size, 2, none⟩ (.string ga)).setCell ⟨v133.heap.size, 3, none⟩ (.string gv)).setCell ⟨v133.heap.size, 4, none⟩ (.string gn)).setCell ⟨v133.heap.size, 5, none⟩ (.string gd)).setCell ⟨v133.heap.size, 6, none⟩ (.slice u_151 mg cu_151)) wS.heap.size v151.heap.size v133.heap.size u_151 gl) := (((((((RS_153.set 0 _).set 1 _).set 2 _).set 3 _).set 4 _).set 5 _).set 6 _).low (by omega)
              have KF_153 : Hid (Blk (((((((v151.setCell ⟨v133.heap.size, 0, none⟩ (.int .i64 gh)).setCell ⟨v133.heap.size, 1, none⟩ (.int .i64 gt)).setCell ⟨v133.heap.size, 2, none⟩ (.string ga)).setCell ⟨v133.heap.size, 3, none⟩ (.string gv)).setCell ⟨v133.heap.size, 4, none⟩ (.string gn)).setCell ⟨v133.heap.size, 5, none⟩ (.string gd)).setCell ⟨v133.heap.size, 6, none⟩ (.slice u_151 mg cu_151)) v133.heap.size [.int .i64 gh, .int .i64 gt, .string ga, .string gv, .string gn, .string gd, .slice u_151 mg cu_151] 30) := (((((((K_152.out.set 0 _).set 1 _).set 2 _).set 3 _).set 4 _).set 5 _).set 6 _)
              have HB_153 : Hid (Below wS.heap.size wS (((((((v151.setCell ⟨v133.heap.size, 0, none⟩ (.int .i64 gh)).setCell ⟨v133.heap.size, 1, none⟩ (.int .i64 gt)).setCell ⟨v133.heap.size, 2, none⟩ (.string ga)).setCell ⟨v133.heap.size, 3, none⟩ (.string gv)).setCell ⟨v133.heap.size, 4, none⟩ (.string gn)).setCell ⟨v133.heap.size, 5, none⟩ (.string gd)).setCell ⟨v133.heap.size, 6, none⟩ (.slice u_151 mg cu_151))) := (((((((HB_152.out.setCell (p := ⟨v133.heap.size, 0, none⟩) hG_147 _).setCell (p := ⟨v133.heap.size, 1, none⟩) hG_147 _).setCell (p := ⟨v133.heap.size, 2, none⟩) hG_147 _).setCell (p := ⟨v133.heap.size, 3, none⟩) hG_147 _).setCell (p := ⟨v133.heap.size, 4, none⟩) hG_147 _).setCell (p := ⟨v133.heap.size, 5, none⟩) hG_147 _).setCell (p := ⟨v133.heap.size, 6, none⟩) hG_147 _)
              have p_153_0 := K_152.out.cell 0 rfl
              have p_153_1 := K_152.out.cell 1 rfl
              have p_153_2 := K_152.out.cell 2 rfl
              have p_153_3 := K_152.out.cell 3 rfl
              have p_153_4 := K_152.out.cell 4 rfl
              have p_153_5 := K_152.out.cell 5 rfl
              have p_153_6 := K_152.out.cell 6 rfl
              have pf_153 := fun q => K_152.out.frozen q
              go_simp
              refine hK.out _ _ (hflat _ (HA_126.out.step HB_153.out)) (fun hHeld => ?_)
              clear hK K
              try simp only [Act.put, List.setIfInBounds_toArray, List.set_cons_zero, List.set_cons_succ]
              refine wpAnyH_take (i := 17) (oi := { dst := Option.some 25, op := Go.Op.assign (Go.Operand.tmp 150), type := 3, pos := "exact.go:4058", after := #[{ on := 14, ground := Go.Ground.data }, { on := 16, ground := Go.Ground.chain }, { on := 0, ground := Go.Ground.phase }, { on := 1, ground := Go.Ground.phase }, { on := 2, ground := Go.Ground.phase }, { on := 3, ground := Go.Ground.phase }, { on := 4, ground := Go.Ground.phase }, { on := 5, ground := Go.Ground.phase }, { on := 6, ground := Go.Ground.phase }, { on := 7, ground := Go.Ground.phase }, { on := 8, ground := Go.Ground.phase }, { on := 9, ground := Go.Ground.phase }, { on := 10, ground := Go.Ground.phase }, { on := 11, ground := Go.Ground.phase }, { on := 12, ground := Go.Ground.phase }, { on := 13, ground := Go.Ground.phase }, { on := 14, ground := Go.Ground.phase }, { on := 15, ground := Go.Ground.phase }, { on := 16, ground := Go.Ground.phase }], guard := Option.none }) (v := ?_) rfl (by kernel_rfl) (by kernel_rfl) (by kernel_rfl) (fun _ _ _ h => h) (Or.inl ⟨by rfl, ?_⟩) hHeld ?_
              rotate_left
              · intro w hSw
                try dsimp only at hSw
                go_simp
                try (with_reducible rfl)
              simp only [Act.put, List.setIfInBounds_toArray, List.set_cons_zero, List.set_cons_succ]
              refine wpAnyH_done (by kernel_rfl) ?_ _
              go_wp2_with fail
              go_meet
              exact ⟨v133.heap.size, u_151, cu_151, rfl, rfl, ⟨⟨hG_147, KF_153.out⟩, RF_153.out.top, HB_153.out⟩⟩
          · have bA_154 : Below v131.heap.size v131 (v131.alloc (.cells [.int .i64 0, .int .i64 0, .string ⟨#[]⟩, .string ⟨#[]⟩, .string ⟨#[]⟩, .string ⟨#[]⟩, .slice none 0 0].toArray 30)) := below_one _ _
            have HB_155 : Hid (Below wS.heap.size wS (v131.alloc (.cells [.int .i64 0, .int .i64 0, .string ⟨#[]⟩, .string ⟨#[]⟩, .string ⟨#[]⟩, .string ⟨#[]⟩, .slice none 0 0].toArray 30))) := HB_132.out.trans (bA_154.mono HB_132.out.size)
            have RU_155 : Hid (Cpv (v131.alloc (.cells [.int .i64 0, .int .i64 0, .string ⟨#[]⟩, .string ⟨#[]⟩, .string ⟨#[]⟩, .string ⟨#[]⟩, .slice none 0 0].toArray 30)) v127.heap.size u1_129 l) := RU_132.out.below bA_154
            have K_154 : Hid (Blk (v131.alloc (.cells [.int .i64 0, .int .i64 0, .string ⟨#[]⟩, .string ⟨#[]⟩, .string ⟨#[]⟩, .string ⟨#[]⟩, .slice none 0 0].toArray 30)) v131.heap.size [.int .i64 0, .int .i64 0, .string ⟨#[]⟩, .string ⟨#[]⟩, .string ⟨#[]⟩, .string ⟨#[]⟩, .slice none 0 0] 30) := blk_new v131 _ _
            have hG_154 : wS.heap.size ≤ v131.heap.size := HB_132.out.size
            go_simp
            generalize v131.alloc (Obj.cells [.int .i64 0, .int .i64 0, .string ⟨#[]⟩, .string ⟨#[]⟩, .string ⟨#[]⟩, .string ⟨#[]⟩, .slice none 0 0].toArray 30) = wz_154 at *
            refine hK.out _ _ (hflat _ (HA_126.out.step HB_155.out)) (fun hHeld => ?_)
            clear hK K
            try simp only [Act.put, List.setIfInBounds_toArray, List.set_cons_zero, List.set_cons_succ]
            refine wpAnyH_ready (rs := [7]) (by kernel_rfl) (by decide) ?_
            refine AllReadyH.cons (o := { dst := Option.some 144, op := Go.Op.call { callee := Go.Callee.value (Go.Operand.func 21), args := #[Go.Operand.tmp 143], argTypes := #[46] }, type := 28, pos := "exact.go:4058", after := #[{ on := 6, ground := Go.Ground.data }, { on := 5, ground := Go.Ground.chain }], guard := Option.none }) rfl (fun K hK => ?_) AllReadyH.nil
            go_simp
            go_at_call 21
            refine (kN _ (HN.out.below (HA_126.out.step HB_155.out).2.2.2.2) hm20).mono ?_
            rintro e v156 ⟨un_156, rfl, RN_156, b156⟩
            have HB_157 : Hid (Below wS.heap.size wS v156) := HB_155.out.trans (b156.mono HB_155.out.size)
            have RU_157 : Hid (Cpv v156 v127.heap.size u1_129 l) := RU_155.out.below b156
            have K_157 : Hid (Blk v156 v131.heap.size [.int .i64 0, .int .i64 0, .string ⟨#[]⟩, .string ⟨#[]⟩, .string ⟨#[]⟩, .string ⟨#[]⟩, .slice none 0 0] 30) := K_154.out.below b156 K_154.out.lt
            clear b156
            refine hK.out _ _ (hflat _ (HA_126.out.step HB_157.out)) (fun hHeld => ?_)
            clear hK K
            try simp only [Act.put, List.setIfInBounds_toArray, List.set_cons_zero, List.set_cons_succ]
            refine wpAnyH_ready (rs := [9]) (by kernel_rfl) (by decide) ?_
            refine AllReadyH.cons (o := { dst := Option.some 146, op := Go.Op.call { callee := Go.Callee.value (Go.Operand.func 22), args := #[Go.Operand.tmp 145], argTypes := #[51] }, type := 33, pos := "exact.go:4058", after := #[{ on := 8, ground := Go.Ground.data }, { on := 7, ground := Go.Ground.chain }], guard := Option.none }) rfl (fun K hK => ?_) AllReadyH.nil
            go_simp
            go_at_call 22
            refine (kC _ (HS.out.below (HA_126.out.step HB_157.out).2.2.2.2) hc20).mono ?_
            rintro e v158 ⟨uc_158, rfl, RC_158, b158⟩
            have HB_159 : Hid (Below wS.heap.size wS v158) := HB_157.out.trans (b158.mono HB_157.out.size)
            have RU_159 : Hid (Cpv v158 v127.heap.size u1_129 l) := RU_157.out.below b158
            have K_159 : Hid (Blk v158 v131.heap.size [.int .i64 0, .int .i64 0, .string ⟨#[]⟩, .string ⟨#[]⟩, .string ⟨#[]⟩, .string ⟨#[]⟩, .slice none 0 0] 30) := K_157.out.below b158 K_157.out.lt
            have RN_159 : Hid (Cpv v158 wz_154.heap.size un_156 nx) := RN_156.out.below b158
            clear b158
            refine hK.out _ _ (hflat _ (HA_126.out.step HB_159.out)) (fun hHeld => ?_)
            clear hK K
            try simp only [Act.put, List.setIfInBounds_toArray, List.set_cons_zero, List.set_cons_succ]
            refine wpAnyH_ready (rs := [11]) (by kernel_rfl) (by decide) ?_
            refine AllReadyH.cons (o := { dst := Option.some 148, op := Go.Op.call { callee := Go.Callee.value (Go.Operand.func 7), args := #[Go.Operand.tmp 138, Go.Operand.tmp 140, Go.Operand.tmp 142, Go.Operand.tmp 144, Go.Operand.tmp 146, Go.Operand.tmp 147], argTypes := #[25, 30, 27, 28, 33, 3] }, type := 36, pos := "exact.go:4058", after := #[{ on := 1, ground := Go.Ground.data }, { on := 3, ground := Go.Ground.data }, { on := 5, ground := Go.Ground.data }, { on := 7, ground := Go.Ground.data }, { on := 9, ground := Go.Ground.data }, { on := 10, ground := Go.Ground.data }, { on := 9, ground := Go.Ground.chain }], guard := Option.none }) rfl (fun K hK => ?_) AllReadyH.nil
            go_simp
            go_at_call 7
            refine (kIc u1_129 un_156 uc_158 h20 hm20 _ RU_159.out.o (HPA.out _ _ _ RU_159.out) RN_159.out.o (HPN.out _ _ _ RN_159.out) RC_158.out.o (HT.out.below (HA_126.out.step HB_159.out).2.2.2.2 HT.out.pos)).mono ?_
            rintro e v160 ⟨u_160, cu_160, rfl, ROW_160, b160⟩
            have HB_161 : Hid (Below wS.heap.size wS v160) := HB_159.out.trans (b160.mono HB_159.out.size)
            have RU_161 : Hid (Cpv v160 v127.heap.size u1_129 l) := RU_159.out.below b160
            have K_161 : Hid (Blk v160 v131.heap.size [.int .i64 0, .int .i64 0, .string ⟨#[]⟩, .string ⟨#[]⟩, .string ⟨#[]⟩, .string ⟨#[]⟩, .slice none 0 0] 30) := K_159.out.below b160 K_159.out.lt
            have RN_161 : Hid (Cpv v160 wz_154.heap.size un_156 nx) := RN_159.out.below b160
            have RC_161 : Hid (Cop v160 v156.heap.size ⟨ch, cr, ci, cl⟩ uc_158) := RC_158.out.below b160
            have hbs_160 : wS.heap.size ≤ v158.heap.size := HB_159.out.size
            clear b160
            have hGb_160 : v131.heap.size < v158.heap.size := K_159.out.lt
            refine hK.out _ _ (hflat _ (HA_126.out.step HB_161.out)) (fun hHeld => ?_)
            clear hK K
            try simp only [Act.put, List.setIfInBounds_toArray, List.set_cons_zero, List.set_cons_succ]
            refine wpAnyH_take (i := 12) (oi := { dst := Option.some 136, op := Go.Op.move (Go.Operand.tmp 148), type := 36, pos := "exact.go:4058", after := #[{ on := 11, ground := Go.Ground.data }], guard := Option.none }) (v := ?_) rfl (by kernel_rfl) (by kernel_rfl) (by kernel_rfl) (fun _ _ _ h => h) (Or.inl ⟨by rfl, ?_⟩) hHeld ?_
            rotate_left
            · intro w hSw
              try dsimp only at hSw
              go_simp
              try (with_reducible rfl)
            simp only [Act.put, List.setIfInBounds_toArray, List.set_cons_zero, List.set_cons_succ]
            refine wpAnyH_take (i := 13) (oi := { dst := Option.some 149, op := Go.Op.extract (Go.Operand.tmp 136) 0, type := 30, pos := "exact.go:4058", after := #[{ on := 12, ground := Go.Ground.data }], guard := Option.none }) (v := ?_) rfl (by kernel_rfl) (by kernel_rfl) (by kernel_rfl) (fun _ _ _ h => h) (Or.inl ⟨by rfl, ?_⟩) hHeld ?_
            rotate_left
            · intro w hSw
              try dsimp only at hSw
              go_simp
              try (with_reducible rfl)
            simp only [Act.put, List.setIfInBounds_toArray, List.set_cons_zero, List.set_cons_succ]
            refine wpAnyH_take (i := 14) (oi := { dst := Option.some 150, op := Go.Op.extract (Go.Operand.tmp 136) 1, type := 3, pos := "exact.go:4058", after := #[{ on := 12, ground := Go.Ground.data }, { on := 16, ground := Go.Ground.gcOnly Go.Departure.lateStores }], guard := Option.none }) (v := ?_) rfl (by kernel_rfl) (by kernel_rfl) (by kernel_rfl) (fun _ _ _ h => h) (Or.inl ⟨by rfl, ?_⟩) hHeld ?_
            rotate_left
            · intro w hSw
              try dsimp only at hSw
              go_simp
              try (with_reducible rfl)
            simp only [Act.put, List.setIfInBounds_toArray, List.set_cons_zero, List.set_cons_succ]
            refine wpAnyH_ready (rs := [16]) (by kernel_rfl) (by decide) ?_
            refine AllReadyH.cons (o := { dst := Option.none, op := Go.Op.store 30 (Go.Operand.tmp 24) (Go.Operand.tmp 149), type := 0, pos := "exact.go:4058", after := #[{ on := 15, ground := Go.Ground.data }, { on := 13, ground := Go.Ground.data }, { on := 11, ground := Go.Ground.chain }, { on := 0, ground := Go.Ground.phase }, { on := 1, ground := Go.Ground.phase }, { on := 2, ground := Go.Ground.phase }, { on := 3, ground := Go.Ground.phase }, { on := 4, ground := Go.Ground.phase }, { on := 5, ground := Go.Ground.phase }, { on := 6, ground := Go.Ground.phase }, { on := 7, ground := Go.Ground.phase }, { on := 8, ground := Go.Ground.phase }, { on := 9, ground := Go.Ground.phase }, { on := 10, ground := Go.Ground.phase }, { on := 11, ground := Go.Ground.phase }, { on := 12, ground := Go.Ground.phase }, { on := 13, ground := Go.Ground.phase }, { on := 14, ground := Go.Ground.textOnly Go.Departure.lateStores }, { on := 15, ground := Go.Ground.phase }], guard := Option.none }) rfl (fun K hK => ?_) AllReadyH.nil
            have RS_162 : Rr v160 v158.heap.size v160.heap.size v131.heap.size u_160 gl := OwnV.rr ROW_160.out (Nat.le_refl _) (fun b h1 h2 => by omega)
            have RF_162 : Hid (Rr (((((((v160.setCell ⟨v131.heap.size, 0, none⟩ (.int .i64 gh)).setCell ⟨v131.heap.size, 1, none⟩ (.int .i64 gt)).setCell ⟨v131.heap.size, 2, none⟩ (.string ga)).setCell ⟨v131.heap.size, 3, none⟩ (.string gv)).setCell ⟨v131.heap.size, 4, none⟩ (.string gn)).setCell ⟨v131.heap.size, 5, none⟩ (.string gd)).setCell ⟨v131.heap.size, 6, none⟩ (.slice u_160 mg cu_160)) wS.heap.size v160.heap.size v131.heap.size u_160 gl) := (((((((RS_162.set 0 _).set 1 _).set 2 _).set 3 _).set 4 _).set 5 _).set 6 _).low (by omega)
            have KF_162 : Hid (Blk (((((((v160.setCell ⟨v131.heap.size, 0, none⟩ (.int .i64 gh)).setCell ⟨v131.heap.size, 1, none⟩ (.int .i64 gt)).setCell ⟨v131.heap.size, 2, none⟩ (.string ga)).setCell ⟨v131.heap.size, 3, none⟩ (.string gv)).setCell ⟨v131.heap.size, 4, none⟩ (.string gn)).setCell ⟨v131.heap.size, 5, none⟩ (.string gd)).setCell ⟨v131.heap.size, 6, none⟩ (.slice u_160 mg cu_160)) v131.heap.size [.int .i64 gh, .int .i64 gt, .string ga, .string gv, .string gn, .string gd, .slice u_160 mg cu_160] 30) := (((((((K_161.out.set 0 _).set 1 _).set 2 _).set 3 _).set 4 _).set 5 _).set 6 _)
            have HB_162 : Hid (Below wS.heap.size wS (((((((v160.setCell ⟨v131.heap.size, 0, none⟩ (.int .i64 gh)).setCell ⟨v131.heap.size, 1, none⟩ (.int .i64 gt)).setCell ⟨v131.heap.size, 2, none⟩ (.string ga)).setCell ⟨v131.heap.size, 3, none⟩ (.string gv)).setCell ⟨v131.heap.size, 4, none⟩ (.string gn)).setCell ⟨v131.heap.size, 5, none⟩ (.string gd)).setCell ⟨v131.heap.size, 6, none⟩ (.slice u_160 mg cu_160))) := (((((((HB_161.out.setCell (p := ⟨v131.heap.size, 0, none⟩) hG_154 _).setCell (p := ⟨v131.heap.size, 1, none⟩) hG_154 _).setCell (p := ⟨v131.heap.size, 2, none⟩) hG_154 _).setCell (p := ⟨v131.heap.size, 3, none⟩) hG_154 _).setCell (p := ⟨v131.heap.size, 4, none⟩) hG_154 _).setCell (p := ⟨v131.heap.size, 5, none⟩) hG_154 _).setCell (p := ⟨v131.heap.size, 6, none⟩) hG_154 _)
            have p_162_0 := K_161.out.cell 0 rfl
            have p_162_1 := K_161.out.cell 1 rfl
            have p_162_2 := K_161.out.cell 2 rfl
            have p_162_3 := K_161.out.cell 3 rfl
            have p_162_4 := K_161.out.cell 4 rfl
            have p_162_5 := K_161.out.cell 5 rfl
            have p_162_6 := K_161.out.cell 6 rfl
            have pf_162 := fun q => K_161.out.frozen q
            go_simp
            refine hK.out _ _ (hflat _ (HA_126.out.step HB_162.out)) (fun hHeld => ?_)
            clear hK K
            try simp only [Act.put, List.setIfInBounds_toArray, List.set_cons_zero, List.set_cons_succ]
            refine wpAnyH_take (i := 17) (oi := { dst := Option.some 25, op := Go.Op.assign (Go.Operand.tmp 150), type := 3, pos := "exact.go:4058", after := #[{ on := 14, ground := Go.Ground.data }, { on := 16, ground := Go.Ground.chain }, { on := 0, ground := Go.Ground.phase }, { on := 1, ground := Go.Ground.phase }, { on := 2, ground := Go.Ground.phase }, { on := 3, ground := Go.Ground.phase }, { on := 4, ground := Go.Ground.phase }, { on := 5, ground := Go.Ground.phase }, { on := 6, ground := Go.Ground.phase }, { on := 7, ground := Go.Ground.phase }, { on := 8, ground := Go.Ground.phase }, { on := 9, ground := Go.Ground.phase }, { on := 10, ground := Go.Ground.phase }, { on := 11, ground := Go.Ground.phase }, { on := 12, ground := Go.Ground.phase }, { on := 13, ground := Go.Ground.phase }, { on := 14, ground := Go.Ground.phase }, { on := 15, ground := Go.Ground.phase }, { on := 16, ground := Go.Ground.phase }], guard := Option.none }) (v := ?_) rfl (by kernel_rfl) (by kernel_rfl) (by kernel_rfl) (fun _ _ _ h => h) (Or.inl ⟨by rfl, ?_⟩) hHeld ?_
            rotate_left
            · intro w hSw
              try dsimp only at hSw
              go_simp
              try (with_reducible rfl)
            simp only [Act.put, List.setIfInBounds_toArray, List.set_cons_zero, List.set_cons_succ]
            refine wpAnyH_done (by kernel_rfl) ?_ _
            go_wp2_with fail
            go_meet
            exact ⟨v131.heap.size, u_160, cu_160, rfl, rfl, ⟨⟨hG_154, KF_162.out⟩, RF_162.out.top, HB_162.out⟩⟩
        · have bA_163 : Below v129.heap.size v129 (v129.alloc (.cells [.int .i64 0, .int .i64 0, .string ⟨#[]⟩, .string ⟨#[]⟩, .string ⟨#[]⟩, .string ⟨#[]⟩, .slice none 0 0].toArray 30)) := below_one _ _
          have HB_164 : Hid (Below wS.heap.size wS (v129.alloc (.cells [.int .i64 0, .int .i64 0, .string ⟨#[]⟩, .string ⟨#[]⟩, .string ⟨#[]⟩, .string ⟨#[]⟩, .slice none 0 0].toArray 30))) := HB_130.out.trans (bA_163.mono HB_130.out.size)
          have RU_164 : Hid (Cpv (v129.alloc (.cells [.int .i64 0, .int .i64 0, .string ⟨#[]⟩, .string ⟨#[]⟩, .string ⟨#[]⟩, .string ⟨#[]⟩, .slice none 0 0].toArray 30)) v127.heap.size u1_129 l) := RU_129.out.below bA_163
          have K_163 : Hid (Blk (v129.alloc (.cells [.int .i64 0, .int .i64 0, .string ⟨#[]⟩, .string ⟨#[]⟩, .string ⟨#[]⟩, .string ⟨#[]⟩, .slice none 0 0].toArray 30)) v129.heap.size [.int .i64 0, .int .i64 0, .string ⟨#[]⟩, .string ⟨#[]⟩, .string ⟨#[]⟩, .string ⟨#[]⟩, .slice none 0 0] 30) := blk_new v129 _ _
          have hG_163 : wS.heap.size ≤ v129.heap.size := HB_130.out.size
          go_simp
          generalize v129.alloc (Obj.cells [.int .i64 0, .int .i64 0, .string ⟨#[]⟩, .string ⟨#[]⟩, .string ⟨#[]⟩, .string ⟨#[]⟩, .slice none 0 0].toArray 30) = wz_163 at *
          refine hK.out _ _ (hflat _ (HA_126.out.step HB_164.out)) (fun hHeld => ?_)
          clear hK K
          try simp only [Act.put, List.setIfInBounds_toArray, List.set_cons_zero, List.set_cons_succ]
          refine wpAnyH_ready (rs := [5]) (by kernel_rfl) (by decide) ?_
          refine AllReadyH.cons (o := { dst := Option.some 142, op := Go.Op.call { callee := Go.Callee.value (Go.Operand.func 20), args := #[Go.Operand.tmp 141], argTypes := #[45] }, type := 27, pos := "exact.go:4058", after := #[{ on := 4, ground := Go.Ground.data }, { on := 3, ground := Go.Ground.chain }], guard := Option.none }) rfl (fun K hK => ?_) AllReadyH.nil
          go_simp
          go_at_call 20
          refine (kX _).mono ?_
          rintro e v165 ⟨rfl, b165⟩
          have HB_166 : Hid (Below wS.heap.size wS v165) := HB_164.out.trans (b165.mono HB_164.out.size)
          have RU_166 : Hid (Cpv v165 v127.heap.size u1_129 l) := RU_164.out.below b165
          have K_166 : Hid (Blk v165 v129.heap.size [.int .i64 0, .int .i64 0, .string ⟨#[]⟩, .string ⟨#[]⟩, .string ⟨#[]⟩, .string ⟨#[]⟩, .slice none 0 0] 30) := K_163.out.below b165 K_163.out.lt
          clear b165
          refine hK.out _ _ (hflat _ (HA_126.out.step HB_166.out)) (fun hHeld => ?_)
          clear hK K
          try simp only [Act.put, List.setIfInBounds_toArray, List.set_cons_zero, List.set_cons_succ]
          refine wpAnyH_ready (rs := [7]) (by kernel_rfl) (by decide) ?_
          refine AllReadyH.cons (o := { dst := Option.some 144, op := Go.Op.call { callee := Go.Callee.value (Go.Operand.func 21), args := #[Go.Operand.tmp 143], argTypes := #[46] }, type := 28, pos := "exact.go:4058", after := #[{ on := 6, ground := Go.Ground.data }, { on := 5, ground := Go.Ground.chain }], guard := Option.none }) rfl (fun K hK => ?_) AllReadyH.nil
          go_simp
          go_at_call 21
          refine (kN _ (HN.out.below (HA_126.out.step HB_166.out).2.2.2.2) hm20).mono ?_
          rintro e v167 ⟨un_167, rfl, RN_167, b167⟩
          have HB_168 : Hid (Below wS.heap.size wS v167) := HB_166.out.trans (b167.mono HB_166.out.size)
          have RU_168 : Hid (Cpv v167 v127.heap.size u1_129 l) := RU_166.out.below b167
          have K_168 : Hid (Blk v167 v129.heap.size [.int .i64 0, .int .i64 0, .string ⟨#[]⟩, .string ⟨#[]⟩, .string ⟨#[]⟩, .string ⟨#[]⟩, .slice none 0 0] 30) := K_166.out.below b167 K_166.out.lt
          clear b167
          refine hK.out _ _ (hflat _ (HA_126.out.step HB_168.out)) (fun hHeld => ?_)
          clear hK K
          try simp only [Act.put, List.setIfInBounds_toArray, List.set_cons_zero, List.set_cons_succ]
          refine wpAnyH_ready (rs := [9]) (by kernel_rfl) (by decide) ?_
          refine AllReadyH.cons (o := { dst := Option.some 146, op := Go.Op.call { callee := Go.Callee.value (Go.Operand.func 22), args := #[Go.Operand.tmp 145], argTypes := #[51] }, type := 33, pos := "exact.go:4058", after := #[{ on := 8, ground := Go.Ground.data }, { on := 7, ground := Go.Ground.chain }], guard := Option.none }) rfl (fun K hK => ?_) AllReadyH.nil
          go_simp
          go_at_call 22
          refine (kC _ (HS.out.below (HA_126.out.step HB_168.out).2.2.2.2) hc20).mono ?_
          rintro e v169 ⟨uc_169, rfl, RC_169, b169⟩
          have HB_170 : Hid (Below wS.heap.size wS v169) := HB_168.out.trans (b169.mono HB_168.out.size)
          have RU_170 : Hid (Cpv v169 v127.heap.size u1_129 l) := RU_168.out.below b169
          have K_170 : Hid (Blk v169 v129.heap.size [.int .i64 0, .int .i64 0, .string ⟨#[]⟩, .string ⟨#[]⟩, .string ⟨#[]⟩, .string ⟨#[]⟩, .slice none 0 0] 30) := K_168.out.below b169 K_168.out.lt
          have RN_170 : Hid (Cpv v169 v165.heap.size un_167 nx) := RN_167.out.below b169
          clear b169
          refine hK.out _ _ (hflat _ (HA_126.out.step HB_170.out)) (fun hHeld => ?_)
          clear hK K
          try simp only [Act.put, List.setIfInBounds_toArray, List.set_cons_zero, List.set_cons_succ]
          refine wpAnyH_ready (rs := [11]) (by kernel_rfl) (by decide) ?_
          refine AllReadyH.cons (o := { dst := Option.some 148, op := Go.Op.call { callee := Go.Callee.value (Go.Operand.func 7), args := #[Go.Operand.tmp 138, Go.Operand.tmp 140, Go.Operand.tmp 142, Go.Operand.tmp 144, Go.Operand.tmp 146, Go.Operand.tmp 147], argTypes := #[25, 30, 27, 28, 33, 3] }, type := 36, pos := "exact.go:4058", after := #[{ on := 1, ground := Go.Ground.data }, { on := 3, ground := Go.Ground.data }, { on := 5, ground := Go.Ground.data }, { on := 7, ground := Go.Ground.data }, { on := 9, ground := Go.Ground.data }, { on := 10, ground := Go.Ground.data }, { on := 9, ground := Go.Ground.chain }], guard := Option.none }) rfl (fun K hK => ?_) AllReadyH.nil
          go_simp
          go_at_call 7
          refine (kIc u1_129 un_167 uc_169 h20 hm20 _ RU_170.out.o (HPA.out _ _ _ RU_170.out) RN_170.out.o (HPN.out _ _ _ RN_170.out) RC_169.out.o (HT.out.below (HA_126.out.step HB_170.out).2.2.2.2 HT.out.pos)).mono ?_
          rintro e v171 ⟨u_171, cu_171, rfl, ROW_171, b171⟩
          have HB_172 : Hid (Below wS.heap.size wS v171) := HB_170.out.trans (b171.mono HB_170.out.size)
          have RU_172 : Hid (Cpv v171 v127.heap.size u1_129 l) := RU_170.out.below b171
          have K_172 : Hid (Blk v171 v129.heap.size [.int .i64 0, .int .i64 0, .string ⟨#[]⟩, .string ⟨#[]⟩, .string ⟨#[]⟩, .string ⟨#[]⟩, .slice none 0 0] 30) := K_170.out.below b171 K_170.out.lt
          have RN_172 : Hid (Cpv v171 v165.heap.size un_167 nx) := RN_170.out.below b171
          have RC_172 : Hid (Cop v171 v167.heap.size ⟨ch, cr, ci, cl⟩ uc_169) := RC_169.out.below b171
          have hbs_171 : wS.heap.size ≤ v169.heap.size := HB_170.out.size
          clear b171
          have hGb_171 : v129.heap.size < v169.heap.size := K_170.out.lt
          refine hK.out _ _ (hflat _ (HA_126.out.step HB_172.out)) (fun hHeld => ?_)
          clear hK K
          try simp only [Act.put, List.setIfInBounds_toArray, List.set_cons_zero, List.set_cons_succ]
          refine wpAnyH_take (i := 12) (oi := { dst := Option.some 136, op := Go.Op.move (Go.Operand.tmp 148), type := 36, pos := "exact.go:4058", after := #[{ on := 11, ground := Go.Ground.data }], guard := Option.none }) (v := ?_) rfl (by kernel_rfl) (by kernel_rfl) (by kernel_rfl) (fun _ _ _ h => h) (Or.inl ⟨by rfl, ?_⟩) hHeld ?_
          rotate_left
          · intro w hSw
            try dsimp only at hSw
            go_simp
            try (with_reducible rfl)
          simp only [Act.put, List.setIfInBounds_toArray, List.set_cons_zero, List.set_cons_succ]
          refine wpAnyH_take (i := 13) (oi := { dst := Option.some 149, op := Go.Op.extract (Go.Operand.tmp 136) 0, type := 30, pos := "exact.go:4058", after := #[{ on := 12, ground := Go.Ground.data }], guard := Option.none }) (v := ?_) rfl (by kernel_rfl) (by kernel_rfl) (by kernel_rfl) (fun _ _ _ h => h) (Or.inl ⟨by rfl, ?_⟩) hHeld ?_
          rotate_left
          · intro w hSw
            try dsimp only at hSw
            go_simp
            try (with_reducible rfl)
          simp only [Act.put, List.setIfInBounds_toArray, List.set_cons_zero, List.set_cons_succ]
          refine wpAnyH_take (i := 14) (oi := { dst := Option.some 150, op := Go.Op.extract (Go.Operand.tmp 136) 1, type := 3, pos := "exact.go:4058", after := #[{ on := 12, ground := Go.Ground.data }, { on := 16, ground := Go.Ground.gcOnly Go.Departure.lateStores }], guard := Option.none }) (v := ?_) rfl (by kernel_rfl) (by kernel_rfl) (by kernel_rfl) (fun _ _ _ h => h) (Or.inl ⟨by rfl, ?_⟩) hHeld ?_
          rotate_left
          · intro w hSw
            try dsimp only at hSw
            go_simp
            try (with_reducible rfl)
          simp only [Act.put, List.setIfInBounds_toArray, List.set_cons_zero, List.set_cons_succ]
          refine wpAnyH_ready (rs := [16]) (by kernel_rfl) (by decide) ?_
          refine AllReadyH.cons (o := { dst := Option.none, op := Go.Op.store 30 (Go.Operand.tmp 24) (Go.Operand.tmp 149), type := 0, pos := "exact.go:4058", after := #[{ on := 15, ground := Go.Ground.data }, { on := 13, ground := Go.Ground.data }, { on := 11, ground := Go.Ground.chain }, { on := 0, ground := Go.Ground.phase }, { on := 1, ground := Go.Ground.phase }, { on := 2, ground := Go.Ground.phase }, { on := 3, ground := Go.Ground.phase }, { on := 4, ground := Go.Ground.phase }, { on := 5, ground := Go.Ground.phase }, { on := 6, ground := Go.Ground.phase }, { on := 7, ground := Go.Ground.phase }, { on := 8, ground := Go.Ground.phase }, { on := 9, ground := Go.Ground.phase }, { on := 10, ground := Go.Ground.phase }, { on := 11, ground := Go.Ground.phase }, { on := 12, ground := Go.Ground.phase }, { on := 13, ground := Go.Ground.phase }, { on := 14, ground := Go.Ground.textOnly Go.Departure.lateStores }, { on := 15, ground := Go.Ground.phase }], guard := Option.none }) rfl (fun K hK => ?_) AllReadyH.nil
          have RS_173 : Rr v171 v169.heap.size v171.heap.size v129.heap.size u_171 gl := OwnV.rr ROW_171.out (Nat.le_refl _) (fun b h1 h2 => by omega)
          have RF_173 : Hid (Rr (((((((v171.setCell ⟨v129.heap.size, 0, none⟩ (.int .i64 gh)).setCell ⟨v129.heap.size, 1, none⟩ (.int .i64 gt)).setCell ⟨v129.heap.size, 2, none⟩ (.string ga)).setCell ⟨v129.heap.size, 3, none⟩ (.string gv)).setCell ⟨v129.heap.size, 4, none⟩ (.string gn)).setCell ⟨v129.heap.size, 5, none⟩ (.string gd)).setCell ⟨v129.heap.size, 6, none⟩ (.slice u_171 mg cu_171)) wS.heap.size v171.heap.size v129.heap.size u_171 gl) := (((((((RS_173.set 0 _).set 1 _).set 2 _).set 3 _).set 4 _).set 5 _).set 6 _).low (by omega)
          have KF_173 : Hid (Blk (((((((v171.setCell ⟨v129.heap.size, 0, none⟩ (.int .i64 gh)).setCell ⟨v129.heap.size, 1, none⟩ (.int .i64 gt)).setCell ⟨v129.heap.size, 2, none⟩ (.string ga)).setCell ⟨v129.heap.size, 3, none⟩ (.string gv)).setCell ⟨v129.heap.size, 4, none⟩ (.string gn)).setCell ⟨v129.heap.size, 5, none⟩ (.string gd)).setCell ⟨v129.heap.size, 6, none⟩ (.slice u_171 mg cu_171)) v129.heap.size [.int .i64 gh, .int .i64 gt, .string ga, .string gv, .string gn, .string gd, .slice u_171 mg cu_171] 30) := (((((((K_172.out.set 0 _).set 1 _).set 2 _).set 3 _).set 4 _).set 5 _).set 6 _)
          have HB_173 : Hid (Below wS.heap.size wS (((((((v171.setCell ⟨v129.heap.size, 0, none⟩ (.int .i64 gh)).setCell ⟨v129.heap.size, 1, none⟩ (.int .i64 gt)).setCell ⟨v129.heap.size, 2, none⟩ (.string ga)).setCell ⟨v129.heap.size, 3, none⟩ (.string gv)).setCell ⟨v129.heap.size, 4, none⟩ (.string gn)).setCell ⟨v129.heap.size, 5, none⟩ (.string gd)).setCell ⟨v129.heap.size, 6, none⟩ (.slice u_171 mg cu_171))) := (((((((HB_172.out.setCell (p := ⟨v129.heap.size, 0, none⟩) hG_163 _).setCell (p := ⟨v129.heap.size, 1, none⟩) hG_163 _).setCell (p := ⟨v129.heap.size, 2, none⟩) hG_163 _).setCell (p := ⟨v129.heap.size, 3, none⟩) hG_163 _).setCell (p := ⟨v129.heap.size, 4, none⟩) hG_163 _).setCell (p := ⟨v129.heap.size, 5, none⟩) hG_163 _).setCell (p := ⟨v129.heap.size, 6, none⟩) hG_163 _)
          have p_173_0 := K_172.out.cell 0 rfl
          have p_173_1 := K_172.out.cell 1 rfl
          have p_173_2 := K_172.out.cell 2 rfl
          have p_173_3 := K_172.out.cell 3 rfl
          have p_173_4 := K_172.out.cell 4 rfl
          have p_173_5 := K_172.out.cell 5 rfl
          have p_173_6 := K_172.out.cell 6 rfl
          have pf_173 := fun q => K_172.out.frozen q
          go_simp
          refine hK.out _ _ (hflat _ (HA_126.out.step HB_173.out)) (fun hHeld => ?_)
          clear hK K
          try simp only [Act.put, List.setIfInBounds_toArray, List.set_cons_zero, List.set_cons_succ]
          refine wpAnyH_take (i := 17) (oi := { dst := Option.some 25, op := Go.Op.assign (Go.Operand.tmp 150), type := 3, pos := "exact.go:4058", after := #[{ on := 14, ground := Go.Ground.data }, { on := 16, ground := Go.Ground.chain }, { on := 0, ground := Go.Ground.phase }, { on := 1, ground := Go.Ground.phase }, { on := 2, ground := Go.Ground.phase }, { on := 3, ground := Go.Ground.phase }, { on := 4, ground := Go.Ground.phase }, { on := 5, ground := Go.Ground.phase }, { on := 6, ground := Go.Ground.phase }, { on := 7, ground := Go.Ground.phase }, { on := 8, ground := Go.Ground.phase }, { on := 9, ground := Go.Ground.phase }, { on := 10, ground := Go.Ground.phase }, { on := 11, ground := Go.Ground.phase }, { on := 12, ground := Go.Ground.phase }, { on := 13, ground := Go.Ground.phase }, { on := 14, ground := Go.Ground.phase }, { on := 15, ground := Go.Ground.phase }, { on := 16, ground := Go.Ground.phase }], guard := Option.none }) (v := ?_) rfl (by kernel_rfl) (by kernel_rfl) (by kernel_rfl) (fun _ _ _ h => h) (Or.inl ⟨by rfl, ?_⟩) hHeld ?_
          rotate_left
          · intro w hSw
            try dsimp only at hSw
            go_simp
            try (with_reducible rfl)
          simp only [Act.put, List.setIfInBounds_toArray, List.set_cons_zero, List.set_cons_succ]
          refine wpAnyH_done (by kernel_rfl) ?_ _
          go_wp2_with fail
          go_meet
          exact ⟨v129.heap.size, u_171, cu_171, rfl, rfl, ⟨⟨hG_163, KF_173.out⟩, RF_173.out.top, HB_173.out⟩⟩
      · have bA_174 : Below v127.heap.size v127 (v127.alloc (.cells [.int .i64 0, .int .i64 0, .string ⟨#[]⟩, .string ⟨#[]⟩, .string ⟨#[]⟩, .string ⟨#[]⟩, .slice none 0 0].toArray 30)) := below_one _ _
        have HB_175 : Hid (Below wS.heap.size wS (v127.alloc (.cells [.int .i64 0, .int .i64 0, .string ⟨#[]⟩, .string ⟨#[]⟩, .string ⟨#[]⟩, .string ⟨#[]⟩, .slice none 0 0].toArray 30))) := HB_128.out.trans (bA_174.mono HB_128.out.size)
        have K_174 : Hid (Blk (v127.alloc (.cells [.int .i64 0, .int .i64 0, .string ⟨#[]⟩, .string ⟨#[]⟩, .string ⟨#[]⟩, .string ⟨#[]⟩, .slice none 0 0].toArray 30)) v127.heap.size [.int .i64 0, .int .i64 0, .string ⟨#[]⟩, .string ⟨#[]⟩, .string ⟨#[]⟩, .string ⟨#[]⟩, .slice none 0 0] 30) := blk_new v127 _ _
        have hG_174 : wS.heap.size ≤ v127.heap.size := HB_128.out.size
        go_simp
        generalize v127.alloc (Obj.cells [.int .i64 0, .int .i64 0, .string ⟨#[]⟩, .string ⟨#[]⟩, .string ⟨#[]⟩, .string ⟨#[]⟩, .slice none 0 0].toArray 30) = wz_174 at *
        refine hK.out _ _ (hflat _ (HA_126.out.step HB_175.out)) (fun hHeld => ?_)
        clear hK K
        try simp only [Act.put, List.setIfInBounds_toArray, List.set_cons_zero, List.set_cons_succ]
        refine wpAnyH_ready (rs := [3]) (by kernel_rfl) (by decide) ?_
        refine AllReadyH.cons (o := { dst := Option.some 140, op := Go.Op.call { callee := Go.Callee.value (Go.Operand.func 19), args := #[Go.Operand.tmp 139], argTypes := #[48] }, type := 30, pos := "exact.go:4058", after := #[{ on := 2, ground := Go.Ground.data }, { on := 1, ground := Go.Ground.chain }], guard := Option.none }) rfl (fun K hK => ?_) AllReadyH.nil
        go_simp
        go_at_call 19
        refine (kA _ (HL.out.below (HA_126.out.step HB_175.out).2.2.2.2) h20).mono ?_
        rintro e v176 ⟨u1_176, rfl, RU_176, b176⟩
        have HB_177 : Hid (Below wS.heap.size wS v176) := HB_175.out.trans (b176.mono HB_175.out.size)
        have K_177 : Hid (Blk v176 v127.heap.size [.int .i64 0, .int .i64 0, .string ⟨#[]⟩, .string ⟨#[]⟩, .string ⟨#[]⟩, .string ⟨#[]⟩, .slice none 0 0] 30) := K_174.out.below b176 K_174.out.lt
        clear b176
        refine hK.out _ _ (hflat _ (HA_126.out.step HB_177.out)) (fun hHeld => ?_)
        clear hK K
        try simp only [Act.put, List.setIfInBounds_toArray, List.set_cons_zero, List.set_cons_succ]
        refine wpAnyH_ready (rs := [5]) (by kernel_rfl) (by decide) ?_
        refine AllReadyH.cons (o := { dst := Option.some 142, op := Go.Op.call { callee := Go.Callee.value (Go.Operand.func 20), args := #[Go.Operand.tmp 141], argTypes := #[45] }, type := 27, pos := "exact.go:4058", after := #[{ on := 4, ground := Go.Ground.data }, { on := 3, ground := Go.Ground.chain }], guard := Option.none }) rfl (fun K hK => ?_) AllReadyH.nil
        go_simp
        go_at_call 20
        refine (kX _).mono ?_
        rintro e v178 ⟨rfl, b178⟩
        have HB_179 : Hid (Below wS.heap.size wS v178) := HB_177.out.trans (b178.mono HB_177.out.size)
        have K_179 : Hid (Blk v178 v127.heap.size [.int .i64 0, .int .i64 0, .string ⟨#[]⟩, .string ⟨#[]⟩, .string ⟨#[]⟩, .string ⟨#[]⟩, .slice none 0 0] 30) := K_177.out.below b178 K_177.out.lt
        have RU_179 : Hid (Cpv v178 wz_174.heap.size u1_176 l) := RU_176.out.below b178
        clear b178
        refine hK.out _ _ (hflat _ (HA_126.out.step HB_179.out)) (fun hHeld => ?_)
        clear hK K
        try simp only [Act.put, List.setIfInBounds_toArray, List.set_cons_zero, List.set_cons_succ]
        refine wpAnyH_ready (rs := [7]) (by kernel_rfl) (by decide) ?_
        refine AllReadyH.cons (o := { dst := Option.some 144, op := Go.Op.call { callee := Go.Callee.value (Go.Operand.func 21), args := #[Go.Operand.tmp 143], argTypes := #[46] }, type := 28, pos := "exact.go:4058", after := #[{ on := 6, ground := Go.Ground.data }, { on := 5, ground := Go.Ground.chain }], guard := Option.none }) rfl (fun K hK => ?_) AllReadyH.nil
        go_simp
        go_at_call 21
        refine (kN _ (HN.out.below (HA_126.out.step HB_179.out).2.2.2.2) hm20).mono ?_
        rintro e v180 ⟨un_180, rfl, RN_180, b180⟩
        have HB_181 : Hid (Below wS.heap.size wS v180) := HB_179.out.trans (b180.mono HB_179.out.size)
        have K_181 : Hid (Blk v180 v127.heap.size [.int .i64 0, .int .i64 0, .string ⟨#[]⟩, .string ⟨#[]⟩, .string ⟨#[]⟩, .string ⟨#[]⟩, .slice none 0 0] 30) := K_179.out.below b180 K_179.out.lt
        have RU_181 : Hid (Cpv v180 wz_174.heap.size u1_176 l) := RU_179.out.below b180
        clear b180
        refine hK.out _ _ (hflat _ (HA_126.out.step HB_181.out)) (fun hHeld => ?_)
        clear hK K
        try simp only [Act.put, List.setIfInBounds_toArray, List.set_cons_zero, List.set_cons_succ]
        refine wpAnyH_ready (rs := [9]) (by kernel_rfl) (by decide) ?_
        refine AllReadyH.cons (o := { dst := Option.some 146, op := Go.Op.call { callee := Go.Callee.value (Go.Operand.func 22), args := #[Go.Operand.tmp 145], argTypes := #[51] }, type := 33, pos := "exact.go:4058", after := #[{ on := 8, ground := Go.Ground.data }, { on := 7, ground := Go.Ground.chain }], guard := Option.none }) rfl (fun K hK => ?_) AllReadyH.nil
        go_simp
        go_at_call 22
        refine (kC _ (HS.out.below (HA_126.out.step HB_181.out).2.2.2.2) hc20).mono ?_
        rintro e v182 ⟨uc_182, rfl, RC_182, b182⟩
        have HB_183 : Hid (Below wS.heap.size wS v182) := HB_181.out.trans (b182.mono HB_181.out.size)
        have K_183 : Hid (Blk v182 v127.heap.size [.int .i64 0, .int .i64 0, .string ⟨#[]⟩, .string ⟨#[]⟩, .string ⟨#[]⟩, .string ⟨#[]⟩, .slice none 0 0] 30) := K_181.out.below b182 K_181.out.lt
        have RU_183 : Hid (Cpv v182 wz_174.heap.size u1_176 l) := RU_181.out.below b182
        have RN_183 : Hid (Cpv v182 v178.heap.size un_180 nx) := RN_180.out.below b182
        clear b182
        refine hK.out _ _ (hflat _ (HA_126.out.step HB_183.out)) (fun hHeld => ?_)
        clear hK K
        try simp only [Act.put, List.setIfInBounds_toArray, List.set_cons_zero, List.set_cons_succ]
        refine wpAnyH_ready (rs := [11]) (by kernel_rfl) (by decide) ?_
        refine AllReadyH.cons (o := { dst := Option.some 148, op := Go.Op.call { callee := Go.Callee.value (Go.Operand.func 7), args := #[Go.Operand.tmp 138, Go.Operand.tmp 140, Go.Operand.tmp 142, Go.Operand.tmp 144, Go.Operand.tmp 146, Go.Operand.tmp 147], argTypes := #[25, 30, 27, 28, 33, 3] }, type := 36, pos := "exact.go:4058", after := #[{ on := 1, ground := Go.Ground.data }, { on := 3, ground := Go.Ground.data }, { on := 5, ground := Go.Ground.data }, { on := 7, ground := Go.Ground.data }, { on := 9, ground := Go.Ground.data }, { on := 10, ground := Go.Ground.data }, { on := 9, ground := Go.Ground.chain }], guard := Option.none }) rfl (fun K hK => ?_) AllReadyH.nil
        go_simp
        go_at_call 7
        refine (kIc u1_176 un_180 uc_182 h20 hm20 _ RU_183.out.o (HPA.out _ _ _ RU_183.out) RN_183.out.o (HPN.out _ _ _ RN_183.out) RC_182.out.o (HT.out.below (HA_126.out.step HB_183.out).2.2.2.2 HT.out.pos)).mono ?_
        rintro e v184 ⟨u_184, cu_184, rfl, ROW_184, b184⟩
        have HB_185 : Hid (Below wS.heap.size wS v184) := HB_183.out.trans (b184.mono HB_183.out.size)
        have K_185 : Hid (Blk v184 v127.heap.size [.int .i64 0, .int .i64 0, .string ⟨#[]⟩, .string ⟨#[]⟩, .string ⟨#[]⟩, .string ⟨#[]⟩, .slice none 0 0] 30) := K_183.out.below b184 K_183.out.lt
        have RU_185 : Hid (Cpv v184 wz_174.heap.size u1_176 l) := RU_183.out.below b184
        have RN_185 : Hid (Cpv v184 v178.heap.size un_180 nx) := RN_183.out.below b184
        have RC_185 : Hid (Cop v184 v180.heap.size ⟨ch, cr, ci, cl⟩ uc_182) := RC_182.out.below b184
        have hbs_184 : wS.heap.size ≤ v182.heap.size := HB_183.out.size
        clear b184
        have hGb_184 : v127.heap.size < v182.heap.size := K_183.out.lt
        refine hK.out _ _ (hflat _ (HA_126.out.step HB_185.out)) (fun hHeld => ?_)
        clear hK K
        try simp only [Act.put, List.setIfInBounds_toArray, List.set_cons_zero, List.set_cons_succ]
        refine wpAnyH_take (i := 12) (oi := { dst := Option.some 136, op := Go.Op.move (Go.Operand.tmp 148), type := 36, pos := "exact.go:4058", after := #[{ on := 11, ground := Go.Ground.data }], guard := Option.none }) (v := ?_) rfl (by kernel_rfl) (by kernel_rfl) (by kernel_rfl) (fun _ _ _ h => h) (Or.inl ⟨by rfl, ?_⟩) hHeld ?_
        rotate_left
        · intro w hSw
          try dsimp only at hSw
          go_simp
          try (with_reducible rfl)
        simp only [Act.put, List.setIfInBounds_toArray, List.set_cons_zero, List.set_cons_succ]
        refine wpAnyH_take (i := 13) (oi := { dst := Option.some 149, op := Go.Op.extract (Go.Operand.tmp 136) 0, type := 30, pos := "exact.go:4058", after := #[{ on := 12, ground := Go.Ground.data }], guard := Option.none }) (v := ?_) rfl (by kernel_rfl) (by kernel_rfl) (by kernel_rfl) (fun _ _ _ h => h) (Or.inl ⟨by rfl, ?_⟩) hHeld ?_
        rotate_left
        · intro w hSw
          try dsimp only at hSw
          go_simp
          try (with_reducible rfl)
        simp only [Act.put, List.setIfInBounds_toArray, List.set_cons_zero, List.set_cons_succ]
        refine wpAnyH_take (i := 14) (oi := { dst := Option.some 150, op := Go.Op.extract (Go.Operand.tmp 136) 1, type := 3, pos := "exact.go:4058", after := #[{ on := 12, ground := Go.Ground.data }, { on := 16, ground := Go.Ground.gcOnly Go.Departure.lateStores }], guard := Option.none }) (v := ?_) rfl (by kernel_rfl) (by kernel_rfl) (by kernel_rfl) (fun _ _ _ h => h) (Or.inl ⟨by rfl, ?_⟩) hHeld ?_
        rotate_left
        · intro w hSw
          try dsimp only at hSw
          go_simp
          try (with_reducible rfl)
        simp only [Act.put, List.setIfInBounds_toArray, List.set_cons_zero, List.set_cons_succ]
        refine wpAnyH_ready (rs := [16]) (by kernel_rfl) (by decide) ?_
        refine AllReadyH.cons (o := { dst := Option.none, op := Go.Op.store 30 (Go.Operand.tmp 24) (Go.Operand.tmp 149), type := 0, pos := "exact.go:4058", after := #[{ on := 15, ground := Go.Ground.data }, { on := 13, ground := Go.Ground.data }, { on := 11, ground := Go.Ground.chain }, { on := 0, ground := Go.Ground.phase }, { on := 1, ground := Go.Ground.phase }, { on := 2, ground := Go.Ground.phase }, { on := 3, ground := Go.Ground.phase }, { on := 4, ground := Go.Ground.phase }, { on := 5, ground := Go.Ground.phase }, { on := 6, ground := Go.Ground.phase }, { on := 7, ground := Go.Ground.phase }, { on := 8, ground := Go.Ground.phase }, { on := 9, ground := Go.Ground.phase }, { on := 10, ground := Go.Ground.phase }, { on := 11, ground := Go.Ground.phase }, { on := 12, ground := Go.Ground.phase }, { on := 13, ground := Go.Ground.phase }, { on := 14, ground := Go.Ground.textOnly Go.Departure.lateStores }, { on := 15, ground := Go.Ground.phase }], guard := Option.none }) rfl (fun K hK => ?_) AllReadyH.nil
        have RS_186 : Rr v184 v182.heap.size v184.heap.size v127.heap.size u_184 gl := OwnV.rr ROW_184.out (Nat.le_refl _) (fun b h1 h2 => by omega)
        have RF_186 : Hid (Rr (((((((v184.setCell ⟨v127.heap.size, 0, none⟩ (.int .i64 gh)).setCell ⟨v127.heap.size, 1, none⟩ (.int .i64 gt)).setCell ⟨v127.heap.size, 2, none⟩ (.string ga)).setCell ⟨v127.heap.size, 3, none⟩ (.string gv)).setCell ⟨v127.heap.size, 4, none⟩ (.string gn)).setCell ⟨v127.heap.size, 5, none⟩ (.string gd)).setCell ⟨v127.heap.size, 6, none⟩ (.slice u_184 mg cu_184)) wS.heap.size v184.heap.size v127.heap.size u_184 gl) := (((((((RS_186.set 0 _).set 1 _).set 2 _).set 3 _).set 4 _).set 5 _).set 6 _).low (by omega)
        have KF_186 : Hid (Blk (((((((v184.setCell ⟨v127.heap.size, 0, none⟩ (.int .i64 gh)).setCell ⟨v127.heap.size, 1, none⟩ (.int .i64 gt)).setCell ⟨v127.heap.size, 2, none⟩ (.string ga)).setCell ⟨v127.heap.size, 3, none⟩ (.string gv)).setCell ⟨v127.heap.size, 4, none⟩ (.string gn)).setCell ⟨v127.heap.size, 5, none⟩ (.string gd)).setCell ⟨v127.heap.size, 6, none⟩ (.slice u_184 mg cu_184)) v127.heap.size [.int .i64 gh, .int .i64 gt, .string ga, .string gv, .string gn, .string gd, .slice u_184 mg cu_184] 30) := (((((((K_185.out.set 0 _).set 1 _).set 2 _).set 3 _).set 4 _).set 5 _).set 6 _)
        have HB_186 : Hid (Below wS.heap.size wS (((((((v184.setCell ⟨v127.heap.size, 0, none⟩ (.int .i64 gh)).setCell ⟨v127.heap.size, 1, none⟩ (.int .i64 gt)).setCell ⟨v127.heap.size, 2, none⟩ (.string ga)).setCell ⟨v127.heap.size, 3, none⟩ (.string gv)).setCell ⟨v127.heap.size, 4, none⟩ (.string gn)).setCell ⟨v127.heap.size, 5, none⟩ (.string gd)).setCell ⟨v127.heap.size, 6, none⟩ (.slice u_184 mg cu_184))) := (((((((HB_185.out.setCell (p := ⟨v127.heap.size, 0, none⟩) hG_174 _).setCell (p := ⟨v127.heap.size, 1, none⟩) hG_174 _).setCell (p := ⟨v127.heap.size, 2, none⟩) hG_174 _).setCell (p := ⟨v127.heap.size, 3, none⟩) hG_174 _).setCell (p := ⟨v127.heap.size, 4, none⟩) hG_174 _).setCell (p := ⟨v127.heap.size, 5, none⟩) hG_174 _).setCell (p := ⟨v127.heap.size, 6, none⟩) hG_174 _)
        have p_186_0 := K_185.out.cell 0 rfl
        have p_186_1 := K_185.out.cell 1 rfl
        have p_186_2 := K_185.out.cell 2 rfl
        have p_186_3 := K_185.out.cell 3 rfl
        have p_186_4 := K_185.out.cell 4 rfl
        have p_186_5 := K_185.out.cell 5 rfl
        have p_186_6 := K_185.out.cell 6 rfl
        have pf_186 := fun q => K_185.out.frozen q
        go_simp
        refine hK.out _ _ (hflat _ (HA_126.out.step HB_186.out)) (fun hHeld => ?_)
        clear hK K
        try simp only [Act.put, List.setIfInBounds_toArray, List.set_cons_zero, List.set_cons_succ]
        refine wpAnyH_take (i := 17) (oi := { dst := Option.some 25, op := Go.Op.assign (Go.Operand.tmp 150), type := 3, pos := "exact.go:4058", after := #[{ on := 14, ground := Go.Ground.data }, { on := 16, ground := Go.Ground.chain }, { on := 0, ground := Go.Ground.phase }, { on := 1, ground := Go.Ground.phase }, { on := 2, ground := Go.Ground.phase }, { on := 3, ground := Go.Ground.phase }, { on := 4, ground := Go.Ground.phase }, { on := 5, ground := Go.Ground.phase }, { on := 6, ground := Go.Ground.phase }, { on := 7, ground := Go.Ground.phase }, { on := 8, ground := Go.Ground.phase }, { on := 9, ground := Go.Ground.phase }, { on := 10, ground := Go.Ground.phase }, { on := 11, ground := Go.Ground.phase }, { on := 12, ground := Go.Ground.phase }, { on := 13, ground := Go.Ground.phase }, { on := 14, ground := Go.Ground.phase }, { on := 15, ground := Go.Ground.phase }, { on := 16, ground := Go.Ground.phase }], guard := Option.none }) (v := ?_) rfl (by kernel_rfl) (by kernel_rfl) (by kernel_rfl) (fun _ _ _ h => h) (Or.inl ⟨by rfl, ?_⟩) hHeld ?_
        rotate_left
        · intro w hSw
          try dsimp only at hSw
          go_simp
          try (with_reducible rfl)
        simp only [Act.put, List.setIfInBounds_toArray, List.set_cons_zero, List.set_cons_succ]
        refine wpAnyH_done (by kernel_rfl) ?_ _
        go_wp2_with fail
        go_meet
        exact ⟨v127.heap.size, u_184, cu_184, rfl, rfl, ⟨⟨hG_174, KF_186.out⟩, RF_186.out.top, HB_186.out⟩⟩
    · have bA_187 : Below wd.heap.size wd (wd.alloc (.cells [.int .i64 0, .int .i64 0, .string ⟨#[]⟩, .string ⟨#[]⟩, .string ⟨#[]⟩, .string ⟨#[]⟩, .slice none 0 0].toArray 30)) := below_one _ _
      have HB_188 : Hid (Below wS.heap.size wS (wd.alloc (.cells [.int .i64 0, .int .i64 0, .string ⟨#[]⟩, .string ⟨#[]⟩, .string ⟨#[]⟩, .string ⟨#[]⟩, .slice none 0 0].toArray 30))) := HBd_wS.out.trans (bA_187.mono HBd_wS.out.size)
      have K_187 : Hid (Blk (wd.alloc (.cells [.int .i64 0, .int .i64 0, .string ⟨#[]⟩, .string ⟨#[]⟩, .string ⟨#[]⟩, .string ⟨#[]⟩, .slice none 0 0].toArray 30)) wd.heap.size [.int .i64 0, .int .i64 0, .string ⟨#[]⟩, .string ⟨#[]⟩, .string ⟨#[]⟩, .string ⟨#[]⟩, .slice none 0 0] 30) := blk_new wd _ _
      have hG_187 : wS.heap.size ≤ wd.heap.size := HBd_wS.out.size
      go_simp
      generalize wd.alloc (Obj.cells [.int .i64 0, .int .i64 0, .string ⟨#[]⟩, .string ⟨#[]⟩, .string ⟨#[]⟩, .string ⟨#[]⟩, .slice none 0 0].toArray 30) = wz_187 at *
      refine hK.out _ _ (hflat _ (HA_126.out.step HB_188.out)) (fun hHeld => ?_)
      clear hK K
      try simp only [Act.put, List.setIfInBounds_toArray, List.set_cons_zero, List.set_cons_succ]
      refine wpAnyH_ready (rs := [1]) (by kernel_rfl) (by decide) ?_
      refine AllReadyH.cons (o := { dst := Option.some 138, op := Go.Op.call { callee := Go.Callee.value (Go.Operand.func 18), args := #[Go.Operand.tmp 137], argTypes := #[44] }, type := 25, pos := "exact.go:4058", after := #[{ on := 0, ground := Go.Ground.data }], guard := Option.none }) rfl (fun K hK => ?_) AllReadyH.nil
      go_simp
      go_at_call 18
      refine (kT _).mono ?_
      rintro e v189 ⟨rfl, b189⟩
      have HB_190 : Hid (Below wS.heap.size wS v189) := HB_188.out.trans (b189.mono HB_188.out.size)
      have K_190 : Hid (Blk v189 wd.heap.size [.int .i64 0, .int .i64 0, .string ⟨#[]⟩, .string ⟨#[]⟩, .string ⟨#[]⟩, .string ⟨#[]⟩, .slice none 0 0] 30) := K_187.out.below b189 K_187.out.lt
      clear b189
      refine hK.out _ _ (hflat _ (HA_126.out.step HB_190.out)) (fun hHeld => ?_)
      clear hK K
      try simp only [Act.put, List.setIfInBounds_toArray, List.set_cons_zero, List.set_cons_succ]
      refine wpAnyH_ready (rs := [3]) (by kernel_rfl) (by decide) ?_
      refine AllReadyH.cons (o := { dst := Option.some 140, op := Go.Op.call { callee := Go.Callee.value (Go.Operand.func 19), args := #[Go.Operand.tmp 139], argTypes := #[48] }, type := 30, pos := "exact.go:4058", after := #[{ on := 2, ground := Go.Ground.data }, { on := 1, ground := Go.Ground.chain }], guard := Option.none }) rfl (fun K hK => ?_) AllReadyH.nil
      go_simp
      go_at_call 19
      refine (kA _ (HL.out.below (HA_126.out.step HB_190.out).2.2.2.2) h20).mono ?_
      rintro e v191 ⟨u1_191, rfl, RU_191, b191⟩
      have HB_192 : Hid (Below wS.heap.size wS v191) := HB_190.out.trans (b191.mono HB_190.out.size)
      have K_192 : Hid (Blk v191 wd.heap.size [.int .i64 0, .int .i64 0, .string ⟨#[]⟩, .string ⟨#[]⟩, .string ⟨#[]⟩, .string ⟨#[]⟩, .slice none 0 0] 30) := K_190.out.below b191 K_190.out.lt
      clear b191
      refine hK.out _ _ (hflat _ (HA_126.out.step HB_192.out)) (fun hHeld => ?_)
      clear hK K
      try simp only [Act.put, List.setIfInBounds_toArray, List.set_cons_zero, List.set_cons_succ]
      refine wpAnyH_ready (rs := [5]) (by kernel_rfl) (by decide) ?_
      refine AllReadyH.cons (o := { dst := Option.some 142, op := Go.Op.call { callee := Go.Callee.value (Go.Operand.func 20), args := #[Go.Operand.tmp 141], argTypes := #[45] }, type := 27, pos := "exact.go:4058", after := #[{ on := 4, ground := Go.Ground.data }, { on := 3, ground := Go.Ground.chain }], guard := Option.none }) rfl (fun K hK => ?_) AllReadyH.nil
      go_simp
      go_at_call 20
      refine (kX _).mono ?_
      rintro e v193 ⟨rfl, b193⟩
      have HB_194 : Hid (Below wS.heap.size wS v193) := HB_192.out.trans (b193.mono HB_192.out.size)
      have K_194 : Hid (Blk v193 wd.heap.size [.int .i64 0, .int .i64 0, .string ⟨#[]⟩, .string ⟨#[]⟩, .string ⟨#[]⟩, .string ⟨#[]⟩, .slice none 0 0] 30) := K_192.out.below b193 K_192.out.lt
      have RU_194 : Hid (Cpv v193 v189.heap.size u1_191 l) := RU_191.out.below b193
      clear b193
      refine hK.out _ _ (hflat _ (HA_126.out.step HB_194.out)) (fun hHeld => ?_)
      clear hK K
      try simp only [Act.put, List.setIfInBounds_toArray, List.set_cons_zero, List.set_cons_succ]
      refine wpAnyH_ready (rs := [7]) (by kernel_rfl) (by decide) ?_
      refine AllReadyH.cons (o := { dst := Option.some 144, op := Go.Op.call { callee := Go.Callee.value (Go.Operand.func 21), args := #[Go.Operand.tmp 143], argTypes := #[46] }, type := 28, pos := "exact.go:4058", after := #[{ on := 6, ground := Go.Ground.data }, { on := 5, ground := Go.Ground.chain }], guard := Option.none }) rfl (fun K hK => ?_) AllReadyH.nil
      go_simp
      go_at_call 21
      refine (kN _ (HN.out.below (HA_126.out.step HB_194.out).2.2.2.2) hm20).mono ?_
      rintro e v195 ⟨un_195, rfl, RN_195, b195⟩
      have HB_196 : Hid (Below wS.heap.size wS v195) := HB_194.out.trans (b195.mono HB_194.out.size)
      have K_196 : Hid (Blk v195 wd.heap.size [.int .i64 0, .int .i64 0, .string ⟨#[]⟩, .string ⟨#[]⟩, .string ⟨#[]⟩, .string ⟨#[]⟩, .slice none 0 0] 30) := K_194.out.below b195 K_194.out.lt
      have RU_196 : Hid (Cpv v195 v189.heap.size u1_191 l) := RU_194.out.below b195
      clear b195
      refine hK.out _ _ (hflat _ (HA_126.out.step HB_196.out)) (fun hHeld => ?_)
      clear hK K
      try simp only [Act.put, List.setIfInBounds_toArray, List.set_cons_zero, List.set_cons_succ]
      refine wpAnyH_ready (rs := [9]) (by kernel_rfl) (by decide) ?_
      refine AllReadyH.cons (o := { dst := Option.some 146, op := Go.Op.call { callee := Go.Callee.value (Go.Operand.func 22), args := #[Go.Operand.tmp 145], argTypes := #[51] }, type := 33, pos := "exact.go:4058", after := #[{ on := 8, ground := Go.Ground.data }, { on := 7, ground := Go.Ground.chain }], guard := Option.none }) rfl (fun K hK => ?_) AllReadyH.nil
      go_simp
      go_at_call 22
      refine (kC _ (HS.out.below (HA_126.out.step HB_196.out).2.2.2.2) hc20).mono ?_
      rintro e v197 ⟨uc_197, rfl, RC_197, b197⟩
      have HB_198 : Hid (Below wS.heap.size wS v197) := HB_196.out.trans (b197.mono HB_196.out.size)
      have K_198 : Hid (Blk v197 wd.heap.size [.int .i64 0, .int .i64 0, .string ⟨#[]⟩, .string ⟨#[]⟩, .string ⟨#[]⟩, .string ⟨#[]⟩, .slice none 0 0] 30) := K_196.out.below b197 K_196.out.lt
      have RU_198 : Hid (Cpv v197 v189.heap.size u1_191 l) := RU_196.out.below b197
      have RN_198 : Hid (Cpv v197 v193.heap.size un_195 nx) := RN_195.out.below b197
      clear b197
      refine hK.out _ _ (hflat _ (HA_126.out.step HB_198.out)) (fun hHeld => ?_)
      clear hK K
      try simp only [Act.put, List.setIfInBounds_toArray, List.set_cons_zero, List.set_cons_succ]
      refine wpAnyH_ready (rs := [11]) (by kernel_rfl) (by decide) ?_
      refine AllReadyH.cons (o := { dst := Option.some 148, op := Go.Op.call { callee := Go.Callee.value (Go.Operand.func 7), args := #[Go.Operand.tmp 138, Go.Operand.tmp 140, Go.Operand.tmp 142, Go.Operand.tmp 144, Go.Operand.tmp 146, Go.Operand.tmp 147], argTypes := #[25, 30, 27, 28, 33, 3] }, type := 36, pos := "exact.go:4058", after := #[{ on := 1, ground := Go.Ground.data }, { on := 3, ground := Go.Ground.data }, { on := 5, ground := Go.Ground.data }, { on := 7, ground := Go.Ground.data }, { on := 9, ground := Go.Ground.data }, { on := 10, ground := Go.Ground.data }, { on := 9, ground := Go.Ground.chain }], guard := Option.none }) rfl (fun K hK => ?_) AllReadyH.nil
      go_simp
      go_at_call 7
      refine (kIc u1_191 un_195 uc_197 h20 hm20 _ RU_198.out.o (HPA.out _ _ _ RU_198.out) RN_198.out.o (HPN.out _ _ _ RN_198.out) RC_197.out.o (HT.out.below (HA_126.out.step HB_198.out).2.2.2.2 HT.out.pos)).mono ?_
      rintro e v199 ⟨u_199, cu_199, rfl, ROW_199, b199⟩
      have HB_200 : Hid (Below wS.heap.size wS v199) := HB_198.out.trans (b199.mono HB_198.out.size)
      have K_200 : Hid (Blk v199 wd.heap.size [.int .i64 0, .int .i64 0, .string ⟨#[]⟩, .string ⟨#[]⟩, .string ⟨#[]⟩, .string ⟨#[]⟩, .slice none 0 0] 30) := K_198.out.below b199 K_198.out.lt
      have RU_200 : Hid (Cpv v199 v189.heap.size u1_191 l) := RU_198.out.below b199
      have RN_200 : Hid (Cpv v199 v193.heap.size un_195 nx) := RN_198.out.below b199
      have RC_200 : Hid (Cop v199 v195.heap.size ⟨ch, cr, ci, cl⟩ uc_197) := RC_197.out.below b199
      have hbs_199 : wS.heap.size ≤ v197.heap.size := HB_198.out.size
      clear b199
      have hGb_199 : wd.heap.size < v197.heap.size := K_198.out.lt
      refine hK.out _ _ (hflat _ (HA_126.out.step HB_200.out)) (fun hHeld => ?_)
      clear hK K
      try simp only [Act.put, List.setIfInBounds_toArray, List.set_cons_zero, List.set_cons_succ]
      refine wpAnyH_take (i := 12) (oi := { dst := Option.some 136, op := Go.Op.move (Go.Operand.tmp 148), type := 36, pos := "exact.go:4058", after := #[{ on := 11, ground := Go.Ground.data }], guard := Option.none }) (v := ?_) rfl (by kernel_rfl) (by kernel_rfl) (by kernel_rfl) (fun _ _ _ h => h) (Or.inl ⟨by rfl, ?_⟩) hHeld ?_
      rotate_left
      · intro w hSw
        try dsimp only at hSw
        go_simp
        try (with_reducible rfl)
      simp only [Act.put, List.setIfInBounds_toArray, List.set_cons_zero, List.set_cons_succ]
      refine wpAnyH_take (i := 13) (oi := { dst := Option.some 149, op := Go.Op.extract (Go.Operand.tmp 136) 0, type := 30, pos := "exact.go:4058", after := #[{ on := 12, ground := Go.Ground.data }], guard := Option.none }) (v := ?_) rfl (by kernel_rfl) (by kernel_rfl) (by kernel_rfl) (fun _ _ _ h => h) (Or.inl ⟨by rfl, ?_⟩) hHeld ?_
      rotate_left
      · intro w hSw
        try dsimp only at hSw
        go_simp
        try (with_reducible rfl)
      simp only [Act.put, List.setIfInBounds_toArray, List.set_cons_zero, List.set_cons_succ]
      refine wpAnyH_take (i := 14) (oi := { dst := Option.some 150, op := Go.Op.extract (Go.Operand.tmp 136) 1, type := 3, pos := "exact.go:4058", after := #[{ on := 12, ground := Go.Ground.data }, { on := 16, ground := Go.Ground.gcOnly Go.Departure.lateStores }], guard := Option.none }) (v := ?_) rfl (by kernel_rfl) (by kernel_rfl) (by kernel_rfl) (fun _ _ _ h => h) (Or.inl ⟨by rfl, ?_⟩) hHeld ?_
      rotate_left
      · intro w hSw
        try dsimp only at hSw
        go_simp
        try (with_reducible rfl)
      simp only [Act.put, List.setIfInBounds_toArray, List.set_cons_zero, List.set_cons_succ]
      refine wpAnyH_ready (rs := [16]) (by kernel_rfl) (by decide) ?_
      refine AllReadyH.cons (o := { dst := Option.none, op := Go.Op.store 30 (Go.Operand.tmp 24) (Go.Operand.tmp 149), type := 0, pos := "exact.go:4058", after := #[{ on := 15, ground := Go.Ground.data }, { on := 13, ground := Go.Ground.data }, { on := 11, ground := Go.Ground.chain }, { on := 0, ground := Go.Ground.phase }, { on := 1, ground := Go.Ground.phase }, { on := 2, ground := Go.Ground.phase }, { on := 3, ground := Go.Ground.phase }, { on := 4, ground := Go.Ground.phase }, { on := 5, ground := Go.Ground.phase }, { on := 6, ground := Go.Ground.phase }, { on := 7, ground := Go.Ground.phase }, { on := 8, ground := Go.Ground.phase }, { on := 9, ground := Go.Ground.phase }, { on := 10, ground := Go.Ground.phase }, { on := 11, ground := Go.Ground.phase }, { on := 12, ground := Go.Ground.phase }, { on := 13, ground := Go.Ground.phase }, { on := 14, ground := Go.Ground.textOnly Go.Departure.lateStores }, { on := 15, ground := Go.Ground.phase }], guard := Option.none }) rfl (fun K hK => ?_) AllReadyH.nil
      have RS_201 : Rr v199 v197.heap.size v199.heap.size wd.heap.size u_199 gl := OwnV.rr ROW_199.out (Nat.le_refl _) (fun b h1 h2 => by omega)
      have RF_201 : Hid (Rr (((((((v199.setCell ⟨wd.heap.size, 0, none⟩ (.int .i64 gh)).setCell ⟨wd.heap.size, 1, none⟩ (.int .i64 gt)).setCell ⟨wd.heap.size, 2, none⟩ (.string ga)).setCell ⟨wd.heap.size, 3, none⟩ (.string gv)).setCell ⟨wd.heap.size, 4, none⟩ (.string gn)).setCell ⟨wd.heap.size, 5, none⟩ (.string gd)).setCell ⟨wd.heap.size, 6, none⟩ (.slice u_199 mg cu_199)) wS.heap.size v199.heap.size wd.heap.size u_199 gl) := (((((((RS_201.set 0 _).set 1 _).set 2 _).set 3 _).set 4 _).set 5 _).set 6 _).low (by omega)
      have KF_201 : Hid (Blk (((((((v199.setCell ⟨wd.heap.size, 0, none⟩ (.int .i64 gh)).setCell ⟨wd.heap.size, 1, none⟩ (.int .i64 gt)).setCell ⟨wd.heap.size, 2, none⟩ (.string ga)).setCell ⟨wd.heap.size, 3, none⟩ (.string gv)).setCell ⟨wd.heap.size, 4, none⟩ (.string gn)).setCell ⟨wd.heap.size, 5, none⟩ (.string gd)).setCell ⟨wd.heap.size, 6, none⟩ (.slice u_199 mg cu_199)) wd.heap.size [.int .i64 gh, .int .i64 gt, .string ga, .string gv, .string gn, .string gd, .slice u_199 mg cu_199] 30) := (((((((K_200.out.set 0 _).set 1 _).set 2 _).set 3 _).set 4 _).set 5 _).set 6 _)
      have HB_201 : Hid (Below wS.heap.size wS (((((((v199.setCell ⟨wd.heap.size, 0, none⟩ (.int .i64 gh)).setCell ⟨wd.heap.size, 1, none⟩ (.int .i64 gt)).setCell ⟨wd.heap.size, 2, none⟩ (.string ga)).setCell ⟨wd.heap.size, 3, none⟩ (.string gv)).setCell ⟨wd.heap.size, 4, none⟩ (.string gn)).setCell ⟨wd.heap.size, 5, none⟩ (.string gd)).setCell ⟨wd.heap.size, 6, none⟩ (.slice u_199 mg cu_199))) := (((((((HB_200.out.setCell (p := ⟨wd.heap.size, 0, none⟩) hG_187 _).setCell (p := ⟨wd.heap.size, 1, none⟩) hG_187 _).setCell (p := ⟨wd.heap.size, 2, none⟩) hG_187 _).setCell (p := ⟨wd.heap.size, 3, none⟩) hG_187 _).setCell (p := ⟨wd.heap.size, 4, none⟩) hG_187 _).setCell (p := ⟨wd.heap.size, 5, none⟩) hG_187 _).setCell (p := ⟨wd.heap.size, 6, none⟩) hG_187 _)
      have p_201_0 := K_200.out.cell 0 rfl
      have p_201_1 := K_200.out.cell 1 rfl
      have p_201_2 := K_200.out.cell 2 rfl
      have p_201_3 := K_200.out.cell 3 rfl
      have p_201_4 := K_200.out.cell 4 rfl
      have p_201_5 := K_200.out.cell 5 rfl
      have p_201_6 := K_200.out.cell 6 rfl
      have pf_201 := fun q => K_200.out.frozen q
      go_simp
      refine hK.out _ _ (hflat _ (HA_126.out.step HB_201.out)) (fun hHeld => ?_)
      clear hK K
      try simp only [Act.put, List.setIfInBounds_toArray, List.set_cons_zero, List.set_cons_succ]
      refine wpAnyH_take (i := 17) (oi := { dst := Option.some 25, op := Go.Op.assign (Go.Operand.tmp 150), type := 3, pos := "exact.go:4058", after := #[{ on := 14, ground := Go.Ground.data }, { on := 16, ground := Go.Ground.chain }, { on := 0, ground := Go.Ground.phase }, { on := 1, ground := Go.Ground.phase }, { on := 2, ground := Go.Ground.phase }, { on := 3, ground := Go.Ground.phase }, { on := 4, ground := Go.Ground.phase }, { on := 5, ground := Go.Ground.phase }, { on := 6, ground := Go.Ground.phase }, { on := 7, ground := Go.Ground.phase }, { on := 8, ground := Go.Ground.phase }, { on := 9, ground := Go.Ground.phase }, { on := 10, ground := Go.Ground.phase }, { on := 11, ground := Go.Ground.phase }, { on := 12, ground := Go.Ground.phase }, { on := 13, ground := Go.Ground.phase }, { on := 14, ground := Go.Ground.phase }, { on := 15, ground := Go.Ground.phase }, { on := 16, ground := Go.Ground.phase }], guard := Option.none }) (v := ?_) rfl (by kernel_rfl) (by kernel_rfl) (by kernel_rfl) (fun _ _ _ h => h) (Or.inl ⟨by rfl, ?_⟩) hHeld ?_
      rotate_left
      · intro w hSw
        try dsimp only at hSw
        go_simp
        try (with_reducible rfl)
      simp only [Act.put, List.setIfInBounds_toArray, List.set_cons_zero, List.set_cons_succ]
      refine wpAnyH_done (by kernel_rfl) ?_ _
      go_wp2_with fail
      go_meet
      exact ⟨wd.heap.size, u_199, cu_199, rfl, rfl, ⟨⟨hG_187, KF_201.out⟩, RF_201.out.top, HB_201.out⟩⟩
  case rest =>
  rename World => wT
  obtain ⟨G7, u7, c7, rfl, rfl, HF7⟩ := hcut
  have HA_202 : Hid (Arg w wT ⟨tp, ts⟩ ⟨yh, yt, ya, yv, yn, yd⟩ (.slice p m cap) ⟨h, t, aa, v, n, d⟩ ⟨ch, cr, ci, cl⟩ b cb) := HA_126.out.step HF7.out.2.2
  have K0_202 : Hid (Blk wT G0 [.int .i64 gh, .int .i64 gt, .string ga, .string gv, .string gn, .string gd, .slice u0 mg c0] 30) := K0_126.out.below HF7.out.2.2 K0_126.out.lt
  have R0_202 : Hid (Rr wT wA.heap.size wB.heap.size G0 u0 gl) := R0_126.out.below HF7.out.2.2
  have K9_202 : Hid (Blk wT G9 [.int .i64 gh, .int .i64 gt, .string ga, .string gv, .string gn, .string gd, .slice u9 mg c9] 30) := K9_126.out.below HF7.out.2.2 K9_126.out.lt
  have R9_202 : Hid (Rr wT wG.heap.size wH.heap.size G9 u9 (vmarks ((1 : Nat) : Int) mg)) := R9_126.out.below HF7.out.2.2
  clear HA_126 K0_126 R0_126 K9_126 R9_126
  have K7 : Hid (Blk wT G7 [.int .i64 gh, .int .i64 gt, .string ga, .string gv, .string gn, .string gd, .slice u7 mg c7] 30) := HF7.out.1.2
  have R7 : Hid (Rr wT wS.heap.size wT.heap.size G7 u7 gl) := HF7.out.2.1
  clear HF7
  have ka0 := K7.out.cell 0 rfl
  have ka1 := K7.out.cell 1 rfl
  have ka2 := K7.out.cell 2 rfl
  have ka3 := K7.out.cell 3 rfl
  have ka4 := K7.out.cell 4 rfl
  have ka5 := K7.out.cell 5 rfl
  have ka6 := K7.out.cell 6 rfl
  have kb0 := K0_202.out.cell 0 rfl
  have kb1 := K0_202.out.cell 1 rfl
  have kb2 := K0_202.out.cell 2 rfl
  have kb3 := K0_202.out.cell 3 rfl
  have kb4 := K0_202.out.cell 4 rfl
  have kb5 := K0_202.out.cell 5 rfl
  have kb6 := K0_202.out.cell 6 rfl
  go_wp2_with fail
  refine (kEg u7 u0 c7 c0 _ R7.out.o R0_202.out.o hg40).mono ?_
  rintro e wU ⟨rfl, bb⟩
  clear ka0 ka1 ka2 ka3 ka4 ka5 ka6 kb0 kb1 kb2 kb3 kb4 kb5 kb6
  have HA_203 : Hid (Arg w wU ⟨tp, ts⟩ ⟨yh, yt, ya, yv, yn, yd⟩ (.slice p m cap) ⟨h, t, aa, v, n, d⟩ ⟨ch, cr, ci, cl⟩ b cb) := HA_202.out.step bb
  have K0_203 : Hid (Blk wU G0 [.int .i64 gh, .int .i64 gt, .string ga, .string gv, .string gn, .string gd, .slice u0 mg c0] 30) := K0_202.out.below bb K0_202.out.lt
  have R0_203 : Hid (Rr wU wA.heap.size wB.heap.size G0 u0 gl) := R0_202.out.below bb
  have K9_203 : Hid (Blk wU G9 [.int .i64 gh, .int .i64 gt, .string ga, .string gv, .string gn, .string gd, .slice u9 mg c9] 30) := K9_202.out.below bb K9_202.out.lt
  have R9_203 : Hid (Rr wU wG.heap.size wH.heap.size G9 u9 (vmarks ((1 : Nat) : Int) mg)) := R9_202.out.below bb
  have K7_203 : Hid (Blk wU G7 [.int .i64 gh, .int .i64 gt, .string ga, .string gv, .string gn, .string gd, .slice u7 mg c7] 30) := K7.out.below bb K7.out.lt
  have R7_203 : Hid (Rr wU wS.heap.size wT.heap.size G7 u7 gl) := R7.out.below bb
  clear HA_202 K0_202 R0_202 K9_202 R9_202 K7 R7
  clear bb
  have ka0 := K9_203.out.cell 0 rfl
  have ka1 := K9_203.out.cell 1 rfl
  have ka2 := K9_203.out.cell 2 rfl
  have ka3 := K9_203.out.cell 3 rfl
  have ka4 := K9_203.out.cell 4 rfl
  have ka5 := K9_203.out.cell 5 rfl
  have ka6 := K9_203.out.cell 6 rfl
  go_wp2_with fail
  refine (kHgb _ R9_203.out.o).mono ?_
  rintro e wV ⟨rfl, bb⟩
  clear ka0 ka1 ka2 ka3 ka4 ka5 ka6
  have HA_204 : Hid (Arg w wV ⟨tp, ts⟩ ⟨yh, yt, ya, yv, yn, yd⟩ (.slice p m cap) ⟨h, t, aa, v, n, d⟩ ⟨ch, cr, ci, cl⟩ b cb) := HA_203.out.step bb
  have K0_204 : Hid (Blk wV G0 [.int .i64 gh, .int .i64 gt, .string ga, .string gv, .string gn, .string gd, .slice u0 mg c0] 30) := K0_203.out.below bb K0_203.out.lt
  have R0_204 : Hid (Rr wV wA.heap.size wB.heap.size G0 u0 gl) := R0_203.out.below bb
  have K9_204 : Hid (Blk wV G9 [.int .i64 gh, .int .i64 gt, .string ga, .string gv, .string gn, .string gd, .slice u9 mg c9] 30) := K9_203.out.below bb K9_203.out.lt
  have R9_204 : Hid (Rr wV wG.heap.size wH.heap.size G9 u9 (vmarks ((1 : Nat) : Int) mg)) := R9_203.out.below bb
  have K7_204 : Hid (Blk wV G7 [.int .i64 gh, .int .i64 gt, .string ga, .string gv, .string gn, .string gd, .slice u7 mg c7] 30) := K7_203.out.below bb K7_203.out.lt
  have R7_204 : Hid (Rr wV wS.heap.size wT.heap.size G7 u7 gl) := R7_203.out.below bb
  clear HA_203 K0_203 R0_203 K9_203 R9_203 K7_203 R7_203
  clear bb
  go_wp2
  go_ret
  exact ⟨rfl, HA_204.out.2.2.2.2⟩
end Go.Proofs.YtajfmjgaaapjeaaGreatDoor
