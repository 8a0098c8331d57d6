/- What the program's Verify answers: the anchor behind and 0, or the anchor as it was and why; in memory of its own; old memory stays. Conditions: what a machine can hold; the listed variables. -/
import Derived.Test.YtajfmjgaaapjeaaGreatDoorVp
import Derived.Test.YtajfmjgaaapjeaaGreatDoorVc
namespace Go.Proofs.YtajfmjgaaapjeaaGreatDoor
open Go.RowKit
open Num
set_option linter.unusedVariables false
def nextA (a : An) (x : H) (nx : List V) (k : Int) : An := if k = 0 then ⟨x, nx⟩ else a
theorem err_yes {k : Int} (h : ¬ k = 0) : errV k = .iface 114 (.agg #[.int .i64 k]) := if_neg h
theorem err_no : errV 0 = .nilIface := rfl
/-- Verify's variables in their blocks; old memory stands. -/
def Fiv (w W : World) (t : Tr) (y : H) (q : Value) (x : H) (c : Ct) (b : Option Addr) (cb : Nat) : Prop := Blk W w.heap.size [.int .i64 t.p, .int .i64 t.s] 25 ∧ Blk W (w.heap.size + 1) (acs y q) 30 ∧ Blk W (w.heap.size + 2) (hcs x).toList 27 ∧ Blk W (w.heap.size + 3) (ccs c b cb) 33 ∧ Blk W (w.heap.size + 4) [.int .i64 0, .int .i64 0, .string ⟨#[]⟩, .string ⟨#[]⟩, .string ⟨#[]⟩, .string ⟨#[]⟩, .slice none 0 0] 30 ∧ Below w.heap.size w W
theorem Fiv.step {w W W' : World} {t : Tr} {y : H} {q : Value} {x : H} {c : Ct} {b : Option Addr} {cb : Nat} (h : Fiv w W t y q x c b cb) (hb : Below W.heap.size W W') : Fiv w W' t y q x c b cb :=
  ⟨h.1.below hb h.1.lt, h.2.1.below hb h.2.1.lt, h.2.2.1.below hb h.2.2.1.lt, h.2.2.2.1.below hb h.2.2.2.1.lt, h.2.2.2.2.1.below hb h.2.2.2.2.1.lt, h.2.2.2.2.2.trans (hb.mono h.2.2.2.2.2.size)⟩
def fivW (w : World) (t : Tr) (y : H) (q : Value) (x : H) (c : Ct) (b : Option Addr) (cb : Nat) : World := ((((w.alloc (.cells (trcs t) 25)).alloc (.cells (acs y q).toArray 30)).alloc (.cells (hcs x) 27)).alloc (.cells (ccs c b cb).toArray 33)).alloc (.cells [.int .i64 0, .int .i64 0, .string ⟨#[]⟩, .string ⟨#[]⟩, .string ⟨#[]⟩, .string ⟨#[]⟩, .slice none 0 0].toArray 30)
theorem fiv_new (w : World) (t : Tr) (y : H) (q : Value) (x : H) (c : Ct) (b : Option Addr) (cb : Nat) : Fiv w (fivW w t y q x c b cb) t y q x c b cb := by
  have e1 : (w.alloc (.cells (trcs t) 25)).heap.size = w.heap.size + 1 := by simp
  have e2 : ((w.alloc (.cells (trcs t) 25)).alloc (.cells (acs y q).toArray 30)).heap.size = w.heap.size + 2 := by simp
  have e3 : (((w.alloc (.cells (trcs t) 25)).alloc (.cells (acs y q).toArray 30)).alloc (.cells (hcs x) 27)).heap.size = w.heap.size + 3 := by simp
  have e4 : ((((w.alloc (.cells (trcs t) 25)).alloc (.cells (acs y q).toArray 30)).alloc (.cells (hcs x) 27)).alloc (.cells (ccs c b cb).toArray 33)).heap.size = w.heap.size + 4 := by simp
  unfold fivW
  refine ⟨?_, ?_, ?_, ?_, ?_, ?_⟩
  · exact ((((blk_new w [.int .i64 t.p, .int .i64 t.s] _).alloc _).alloc _).alloc _).alloc _
  · have h := (((blk_new (w.alloc (.cells (trcs t) 25)) (acs y q) 30).alloc (.cells (hcs x) 27)).alloc (.cells (ccs c b cb).toArray 33)).alloc (.cells [.int .i64 0, .int .i64 0, .string ⟨#[]⟩, .string ⟨#[]⟩, .string ⟨#[]⟩, .string ⟨#[]⟩, .slice none 0 0].toArray 30)
    rw [e1] at h; exact h
  · have h := ((blk_new ((w.alloc (.cells (trcs t) 25)).alloc (.cells (acs y q).toArray 30)) (hcs x).toList 27).alloc (.cells (ccs c b cb).toArray 33)).alloc (.cells [.int .i64 0, .int .i64 0, .string ⟨#[]⟩, .string ⟨#[]⟩, .string ⟨#[]⟩, .string ⟨#[]⟩, .slice none 0 0].toArray 30)
    rw [e2] at h; exact h
  · have h := (blk_new (((w.alloc (.cells (trcs t) 25)).alloc (.cells (acs y q).toArray 30)).alloc (.cells (hcs x) 27)) (ccs c b cb) 33).alloc (.cells [.int .i64 0, .int .i64 0, .string ⟨#[]⟩, .string ⟨#[]⟩, .string ⟨#[]⟩, .string ⟨#[]⟩, .slice none 0 0].toArray 30)
    rw [e3] at h; exact h
  · have h := blk_new ((((w.alloc (.cells (trcs t) 25)).alloc (.cells (acs y q).toArray 30)).alloc (.cells (hcs x) 27)).alloc (.cells (ccs c b cb).toArray 33)) [.int .i64 0, .int .i64 0, .string ⟨#[]⟩, .string ⟨#[]⟩, .string ⟨#[]⟩, .string ⟨#[]⟩, .slice none 0 0] 30
    rw [e4] at h; exact h
  · exact ((((below_one _ _).alloc (by simp) _).alloc (by simp; omega) _).alloc (by simp; omega) _).alloc (by simp; omega) _
set_option maxHeartbeats 6400000 in
set_option maxRecDepth 100000 in
theorem impl_verify (t : Tr) (y : H) (l : List V) (p : Option Addr) (cap : Nat) (x : H) (nx : List V) (pn : Option Addr) (capn : Nat) (c : Ct) (b : Option Addr) (cb : Nat) (z : Int) (w : World) (hl : VO w p l) (hp : p = none → cap = 0) (hn : VO w pn nx) (hpn : pn = none → capn = 0) (hs : SO w b c.l) (hlen : l.length ≤ 1099511627776) (hlen2 : nx.length ≤ 1099511627776) (hlen3 : c.l.length ≤ 9223372036854775807) (hT : Tab w) (hy : Sml y) (hx : Sml x) :
    Calls Tryz.prog 7 #[trV t, aV y (.slice p l.length cap), hV x, .slice pn nx.length capn, cV c b cb, .int .i64 z] w fun e w' => ∃ u cu, e = .returned (.tuple #[aV (nextA ⟨y, l⟩ x nx (verN t ⟨y, l⟩ x nx c z)).x (.slice u (nextA ⟨y, l⟩ x nx (verN t ⟨y, l⟩ x nx c z)).l.length cu), .int .i64 (verN t ⟨y, l⟩ x nx c z)]) ∧ Hid (OwnV w' w.heap.size (.slice u (nextA ⟨y, l⟩ x nx (verN t ⟨y, l⟩ x nx c z)).l.length cu) (nextA ⟨y, l⟩ x nx (verN t ⟨y, l⟩ x nx c z)).l) ∧ Below w.heap.size w w' := by
  have H0 : Hid (Fiv w (fivW w t y (.slice p l.length cap) x c b cb) t y (.slice p l.length cap) x c b cb) := fiv_new w t y _ x c b cb
  have HT : Hid (Tab w) := hT
  have HL : Hid (VO w p l) := hl
  have HN : Hid (VO w pn nx) := hn
  have HS : Hid (SO w b c.l) := hs
  have kT := fun W (h : VO W p l) (h' : Tab W) => asks_time t y l p cap x z W h (by omega) h'
  have kP := fun (hy : hOk y = true) (hx : hOk x = true) W (h : VO W p l) (g : VO W pn nx) (s : SO W b c.l) (h' : Tab W) => asks_place y l p cap x nx pn capn c b cb W h g s (by omega) (by omega) hlen3 h' hy hx
  have kC := fun k W (h' : Tab W) => code_of k W h'
  have kA := fun W (h : VO W p l) => copy_anchor y l p cap W h hp hlen hy
  have kX := fun W (h : VO W pn nx) => copy_anchor x nx pn capn W h hpn hlen2 hx
  have hR : timeN t ⟨y, l⟩ x z = 0 → hOk y = true ∧ hOk x = true := fun h => by
    obtain ⟨_, h2, h3, _⟩ := right_all (time_zero h)
    exact ⟨aOk_h h2, h3⟩
  have HE : Hid (verN t ⟨y, l⟩ x nx c z = if timeN t ⟨y, l⟩ x z = 0 then placeN ⟨y, l⟩ x nx c else timeN t ⟨y, l⟩ x z) := rfl
  have HA : ∀ k : Int, ¬ k = 0 → nextA ⟨y, l⟩ x nx k = ⟨y, l⟩ := fun k h => if_neg h
  have HX : nextA ⟨y, l⟩ x nx 0 = ⟨x, nx⟩ := rfl
  generalize verN t ⟨y, l⟩ x nx c z = N at *
  generalize timeN t ⟨y, l⟩ x z = K at *
  generalize placeN ⟨y, l⟩ x nx c = J at *
  clear hl hn hs hT hy hx hp hpn
  by_cases hK : K = 0
  rotate_left
  · have HN1 : N = K := by rw [HE.out, if_neg hK]
    rw [HN1]
    rw [HA K hK]
    simp only
    have kT1 := kT
    rw [err_yes hK] at kT1
    have kC1 := kC K
    rw [err_yes hK] at kC1
    clear kT kC kP kX hR HE HA HX HN1
    obtain ⟨tp, ts⟩ := t
    obtain ⟨yh, yt, ya, yv, yn, yd⟩ := y
    obtain ⟨h, t, aa, v, n, d⟩ := x
    obtain ⟨ch, cr, ci, cl⟩ := c
    unfold trV aV hV cV at *
    unfold fivW trcs acs hcs ccs at H0
    simp only at *
    have hflat : ∀ W, Fiv w W ⟨tp, ts⟩ ⟨yh, yt, ya, yv, yn, yd⟩ (.slice p l.length cap) ⟨h, t, aa, v, n, d⟩ ⟨ch, cr, ci, cl⟩ b cb → (W.cell? ⟨w.heap.size, 0, none⟩ = some (.int .i64 tp) ∧ W.cell? ⟨w.heap.size, 1, none⟩ = some (.int .i64 ts)) ∧ (W.cell? ⟨w.heap.size + 1, 0, none⟩ = some (.int .i64 yh) ∧ W.cell? ⟨w.heap.size + 1, 1, none⟩ = some (.int .i64 yt) ∧ W.cell? ⟨w.heap.size + 1, 2, none⟩ = some (.string ya) ∧ W.cell? ⟨w.heap.size + 1, 3, none⟩ = some (.string yv) ∧ W.cell? ⟨w.heap.size + 1, 4, none⟩ = some (.string yn) ∧ W.cell? ⟨w.heap.size + 1, 5, none⟩ = some (.string yd) ∧ W.cell? ⟨w.heap.size + 1, 6, none⟩ = some (.slice p l.length cap)) ∧ (W.cell? ⟨w.heap.size + 2, 0, none⟩ = some (.int .i64 h) ∧ W.cell? ⟨w.heap.size + 2, 1, none⟩ = some (.int .i64 t) ∧ W.cell? ⟨w.heap.size + 2, 2, none⟩ = some (.string aa) ∧ W.cell? ⟨w.heap.size + 2, 3, none⟩ = some (.string v) ∧ W.cell? ⟨w.heap.size + 2, 4, none⟩ = some (.string n) ∧ W.cell? ⟨w.heap.size + 2, 5, none⟩ = some (.string d)) ∧ (W.cell? ⟨w.heap.size + 3, 0, none⟩ = some (.int .i64 ch) ∧ W.cell? ⟨w.heap.size + 3, 1, none⟩ = some (.int .i64 cr) ∧ W.cell? ⟨w.heap.size + 3, 2, none⟩ = some (.string ci) ∧ W.cell? ⟨w.heap.size + 3, 3, none⟩ = some (.slice b cl.length cb)) ∧ (W.cell? ⟨w.heap.size + 4, 0, none⟩ = some (.int .i64 0) ∧ W.cell? ⟨w.heap.size + 4, 1, none⟩ = some (.int .i64 0) ∧ W.cell? ⟨w.heap.size + 4, 2, none⟩ = some (.string ⟨#[]⟩) ∧ W.cell? ⟨w.heap.size + 4, 3, none⟩ = some (.string ⟨#[]⟩) ∧ W.cell? ⟨w.heap.size + 4, 4, none⟩ = some (.string ⟨#[]⟩) ∧ W.cell? ⟨w.heap.size + 4, 5, none⟩ = some (.string ⟨#[]⟩) ∧ W.cell? ⟨w.heap.size + 4, 6, none⟩ = some (.slice none 0 0)) ∧ (W.frozen? ⟨w.heap.size + 4, 0, none⟩ = false ∧ W.frozen? ⟨w.heap.size + 4, 1, none⟩ = false ∧ W.frozen? ⟨w.heap.size + 4, 2, none⟩ = false ∧ W.frozen? ⟨w.heap.size + 4, 3, none⟩ = false ∧ W.frozen? ⟨w.heap.size + 4, 4, none⟩ = false ∧ W.frozen? ⟨w.heap.size + 4, 5, none⟩ = false ∧ W.frozen? ⟨w.heap.size + 4, 6, none⟩ = false) := fun W h => ⟨⟨h.1.cell 0 rfl, h.1.cell 1 rfl⟩, ⟨h.2.1.cell 0 rfl, h.2.1.cell 1 rfl, h.2.1.cell 2 rfl, h.2.1.cell 3 rfl, h.2.1.cell 4 rfl, h.2.1.cell 5 rfl, h.2.1.cell 6 rfl⟩, ⟨h.2.2.1.cell 0 rfl, h.2.2.1.cell 1 rfl, h.2.2.1.cell 2 rfl, h.2.2.1.cell 3 rfl, h.2.2.1.cell 4 rfl, h.2.2.1.cell 5 rfl⟩, ⟨h.2.2.2.1.cell 0 rfl, h.2.2.2.1.cell 1 rfl, h.2.2.2.1.cell 2 rfl, h.2.2.2.1.cell 3 rfl⟩, ⟨h.2.2.2.2.1.cell 0 rfl, h.2.2.2.2.1.cell 1 rfl, h.2.2.2.2.1.cell 2 rfl, h.2.2.2.2.1.cell 3 rfl, h.2.2.2.2.1.cell 4 rfl, h.2.2.2.2.1.cell 5 rfl, h.2.2.2.2.1.cell 6 rfl⟩, ⟨h.2.2.2.2.1.frozen 0, h.2.2.2.2.1.frozen 1, h.2.2.2.2.1.frozen 2, h.2.2.2.2.1.frozen 3, h.2.2.2.2.1.frozen 4, h.2.2.2.2.1.frozen 5, h.2.2.2.2.1.frozen 6⟩⟩
    obtain ⟨w0, hw0⟩ : ∃ W, ((((w.alloc (Obj.cells #[Value.int .i64 tp, Value.int .i64 ts] 25)).alloc (Obj.cells #[Value.int .i64 yh, Value.int .i64 yt, Value.string ya, Value.string yv, Value.string yn, Value.string yd, Value.slice p l.length cap] 30)).alloc (Obj.cells #[Value.int .i64 h, Value.int .i64 t, Value.string aa, Value.string v, Value.string n, Value.string d] 27)).alloc (Obj.cells #[Value.int .i64 ch, Value.int .i64 cr, Value.string ci, Value.slice b cl.length cb] 33)).alloc (Obj.cells #[Value.int .i64 0, Value.int .i64 0, Value.string ⟨#[]⟩, Value.string ⟨#[]⟩, Value.string ⟨#[]⟩, Value.string ⟨#[]⟩, Value.slice none 0 0] 30) = W := ⟨_, rfl⟩
    have HA0 : Hid (Fiv w w0 ⟨tp, ts⟩ ⟨yh, yt, ya, yv, yn, yd⟩ (.slice p l.length cap) ⟨h, t, aa, v, n, d⟩ ⟨ch, cr, ci, cl⟩ b cb) := by rw [← hw0]; exact H0.out
    clear H0
    obtain ⟨⟨at0, at1⟩, ⟨ay0, ay1, ay2, ay3, ay4, ay5, ay6⟩, ⟨ax0, ax1, ax2, ax3, ax4, ax5⟩, ⟨ac0, ac1, ac2, ac3⟩, ⟨az0, az1, az2, az3, az4, az5, az6⟩, ⟨fz0, fz1, fz2, fz3, fz4, fz5, fz6⟩⟩ := hflat _ HA0.out
    go_enter Tryz.func7, Tryz.ntmps7
    go_wp2_with fail
    try rw [hw0]
    refine (kT1 _ (HL.out.below HA0.out.2.2.2.2.2) (HT.out.below HA0.out.2.2.2.2.2 HT.out.pos)).mono ?_
    rintro e w1 ⟨rfl, bb⟩
    have HA1 : Hid (Fiv w w1 ⟨tp, ts⟩ ⟨yh, yt, ya, yv, yn, yd⟩ (.slice p l.length cap) ⟨h, t, aa, v, n, d⟩ ⟨ch, cr, ci, cl⟩ b cb) := HA0.out.step bb
    clear at0 at1 ay0 ay1 ay2 ay3 ay4 ay5 ay6 ax0 ax1 ax2 ax3 ax4 ax5 ac0 ac1 ac2 ac3 az0 az1 az2 az3 az4 az5 az6 fz0 fz1 fz2 fz3 fz4 fz5 fz6 bb HA0 hw0
    obtain ⟨⟨at0, at1⟩, ⟨ay0, ay1, ay2, ay3, ay4, ay5, ay6⟩, ⟨ax0, ax1, ax2, ax3, ax4, ax5⟩, ⟨ac0, ac1, ac2, ac3⟩, ⟨az0, az1, az2, az3, az4, az5, az6⟩, ⟨fz0, fz1, fz2, fz3, fz4, fz5, fz6⟩⟩ := hflat _ HA1.out
    go_wp2_with fail
    refine (kC1 _ (HT.out.below HA1.out.2.2.2.2.2 HT.out.pos)).mono ?_
    rintro e w2 ⟨rfl, bb⟩
    have HA2 : Hid (Fiv w w2 ⟨tp, ts⟩ ⟨yh, yt, ya, yv, yn, yd⟩ (.slice p l.length cap) ⟨h, t, aa, v, n, d⟩ ⟨ch, cr, ci, cl⟩ b cb) := HA1.out.step bb
    clear at0 at1 ay0 ay1 ay2 ay3 ay4 ay5 ay6 ax0 ax1 ax2 ax3 ax4 ax5 ac0 ac1 ac2 ac3 az0 az1 az2 az3 az4 az5 az6 fz0 fz1 fz2 fz3 fz4 fz5 fz6 bb HA1
    obtain ⟨⟨at0, at1⟩, ⟨ay0, ay1, ay2, ay3, ay4, ay5, ay6⟩, ⟨ax0, ax1, ax2, ax3, ax4, ax5⟩, ⟨ac0, ac1, ac2, ac3⟩, ⟨az0, az1, az2, az3, az4, az5, az6⟩, ⟨fz0, fz1, fz2, fz3, fz4, fz5, fz6⟩⟩ := hflat _ HA2.out
    go_wp2_with fail
    refine (kA _ (HL.out.below HA2.out.2.2.2.2.2)).mono ?_
    rintro e w3 ⟨u, cu, rfl, HO, bb⟩
    have HA3 : Hid (Fiv w w3 ⟨tp, ts⟩ ⟨yh, yt, ya, yv, yn, yd⟩ (.slice p l.length cap) ⟨h, t, aa, v, n, d⟩ ⟨ch, cr, ci, cl⟩ b cb) := HA2.out.step bb
    clear at0 at1 ay0 ay1 ay2 ay3 ay4 ay5 ay6 ax0 ax1 ax2 ax3 ax4 ax5 ac0 ac1 ac2 ac3 az0 az1 az2 az3 az4 az5 az6 fz0 fz1 fz2 fz3 fz4 fz5 fz6 bb
    obtain ⟨⟨at0, at1⟩, ⟨ay0, ay1, ay2, ay3, ay4, ay5, ay6⟩, ⟨ax0, ax1, ax2, ax3, ax4, ax5⟩, ⟨ac0, ac1, ac2, ac3⟩, ⟨az0, az1, az2, az3, az4, az5, az6⟩, ⟨fz0, fz1, fz2, fz3, fz4, fz5, fz6⟩⟩ := hflat _ HA3.out
    obtain ⟨w9, hw9⟩ : ∃ W, (((((((w3).setCell ⟨w.heap.size + 4, 0, none⟩ (.int .i64 yh)).setCell ⟨w.heap.size + 4, 1, none⟩ (.int .i64 yt)).setCell ⟨w.heap.size + 4, 2, none⟩ (.string ya)).setCell ⟨w.heap.size + 4, 3, none⟩ (.string yv)).setCell ⟨w.heap.size + 4, 4, none⟩ (.string yn)).setCell ⟨w.heap.size + 4, 5, none⟩ (.string yd)).setCell ⟨w.heap.size + 4, 6, none⟩ (.slice u l.length cu) = W := ⟨_, rfl⟩
    have hsz : w.heap.size + 4 < w2.heap.size := HA2.out.2.2.2.2.1.lt
    have HZ : Hid (Blk w9 (w.heap.size + 4) [.int .i64 yh, .int .i64 yt, .string ya, .string yv, .string yn, .string yd, .slice u l.length cu] 30) := by rw [← hw9]; exact (((((((HA3.out.2.2.2.2.1).set 0 _).set 1 _).set 2 _).set 3 _).set 4 _).set 5 _).set 6 _
    have HF : Below w.heap.size w w9 := by rw [← hw9]; exact (((((((HA3.out.2.2.2.2.2).setCell (show w.heap.size ≤ w.heap.size + 4 by omega) _).setCell (show w.heap.size ≤ w.heap.size + 4 by omega) _).setCell (show w.heap.size ≤ w.heap.size + 4 by omega) _).setCell (show w.heap.size ≤ w.heap.size + 4 by omega) _).setCell (show w.heap.size ≤ w.heap.size + 4 by omega) _).setCell (show w.heap.size ≤ w.heap.size + 4 by omega) _).setCell (show w.heap.size ≤ w.heap.size + 4 by omega) _
    have HO9 : Hid (OwnV w9 w.heap.size (.slice u l.length cu) l) := by rw [← hw9]; exact own_low (ownsRow_setCell_below (ownsRow_setCell_below (ownsRow_setCell_below (ownsRow_setCell_below (ownsRow_setCell_below (ownsRow_setCell_below (ownsRow_setCell_below HO.out (show w.heap.size + 4 < w2.heap.size from hsz) _) (show w.heap.size + 4 < w2.heap.size from hsz) _) (show w.heap.size + 4 < w2.heap.size from hsz) _) (show w.heap.size + 4 < w2.heap.size from hsz) _) (show w.heap.size + 4 < w2.heap.size from hsz) _) (show w.heap.size + 4 < w2.heap.size from hsz) _) (show w.heap.size + 4 < w2.heap.size from hsz) _) (by omega)
    have r0 := HZ.out.cell 0 rfl
    have r1 := HZ.out.cell 1 rfl
    have r2 := HZ.out.cell 2 rfl
    have r3 := HZ.out.cell 3 rfl
    have r4 := HZ.out.cell 4 rfl
    have r5 := HZ.out.cell 5 rfl
    have r6 := HZ.out.cell 6 rfl
    go_wp2
    try rw [hw9]
    refine bodyPost_ret (v := .tuple #[.agg #[.int .i64 yh, .int .i64 yt, .string ya, .string yv, .string yn, .string yd, .slice u l.length cu], .int .i64 K]) ?_ rfl ⟨_, _, rfl, HO9, HF⟩
    skip
    simp [results, Tryz.results7, go_sem, r0, r1, r2, r3, r4, r5, r6]
  by_cases hJ : J = 0
  rotate_left
  · subst hK
    have hJR := hR rfl
    have kP1 := kP hJR.1 hJR.2
    have HN1 : N = J := by rw [HE.out, if_pos rfl]
    rw [HN1]
    rw [HA J hJ]
    simp only
    have kT1 := kT
    rw [err_no] at kT1
    rw [err_yes hJ] at kP1
    have kC1 := kC J
    rw [err_yes hJ] at kC1
    clear kT kC kP kX hR HE HA HX HN1 hJR
    obtain ⟨tp, ts⟩ := t
    obtain ⟨yh, yt, ya, yv, yn, yd⟩ := y
    obtain ⟨h, t, aa, v, n, d⟩ := x
    obtain ⟨ch, cr, ci, cl⟩ := c
    unfold trV aV hV cV at *
    unfold fivW trcs acs hcs ccs at H0
    simp only at *
    have hflat : ∀ W, Fiv w W ⟨tp, ts⟩ ⟨yh, yt, ya, yv, yn, yd⟩ (.slice p l.length cap) ⟨h, t, aa, v, n, d⟩ ⟨ch, cr, ci, cl⟩ b cb → (W.cell? ⟨w.heap.size, 0, none⟩ = some (.int .i64 tp) ∧ W.cell? ⟨w.heap.size, 1, none⟩ = some (.int .i64 ts)) ∧ (W.cell? ⟨w.heap.size + 1, 0, none⟩ = some (.int .i64 yh) ∧ W.cell? ⟨w.heap.size + 1, 1, none⟩ = some (.int .i64 yt) ∧ W.cell? ⟨w.heap.size + 1, 2, none⟩ = some (.string ya) ∧ W.cell? ⟨w.heap.size + 1, 3, none⟩ = some (.string yv) ∧ W.cell? ⟨w.heap.size + 1, 4, none⟩ = some (.string yn) ∧ W.cell? ⟨w.heap.size + 1, 5, none⟩ = some (.string yd) ∧ W.cell? ⟨w.heap.size + 1, 6, none⟩ = some (.slice p l.length cap)) ∧ (W.cell? ⟨w.heap.size + 2, 0, none⟩ = some (.int .i64 h) ∧ W.cell? ⟨w.heap.size + 2, 1, none⟩ = some (.int .i64 t) ∧ W.cell? ⟨w.heap.size + 2, 2, none⟩ = some (.string aa) ∧ W.cell? ⟨w.heap.size + 2, 3, none⟩ = some (.string v) ∧ W.cell? ⟨w.heap.size + 2, 4, none⟩ = some (.string n) ∧ W.cell? ⟨w.heap.size + 2, 5, none⟩ = some (.string d)) ∧ (W.cell? ⟨w.heap.size + 3, 0, none⟩ = some (.int .i64 ch) ∧ W.cell? ⟨w.heap.size + 3, 1, none⟩ = some (.int .i64 cr) ∧ W.cell? ⟨w.heap.size + 3, 2, none⟩ = some (.string ci) ∧ W.cell? ⟨w.heap.size + 3, 3, none⟩ = some (.slice b cl.length cb)) ∧ (W.cell? ⟨w.heap.size + 4, 0, none⟩ = some (.int .i64 0) ∧ W.cell? ⟨w.heap.size + 4, 1, none⟩ = some (.int .i64 0) ∧ W.cell? ⟨w.heap.size + 4, 2, none⟩ = some (.string ⟨#[]⟩) ∧ W.cell? ⟨w.heap.size + 4, 3, none⟩ = some (.string ⟨#[]⟩) ∧ W.cell? ⟨w.heap.size + 4, 4, none⟩ = some (.string ⟨#[]⟩) ∧ W.cell? ⟨w.heap.size + 4, 5, none⟩ = some (.string ⟨#[]⟩) ∧ W.cell? ⟨w.heap.size + 4, 6, none⟩ = some (.slice none 0 0)) ∧ (W.frozen? ⟨w.heap.size + 4, 0, none⟩ = false ∧ W.frozen? ⟨w.heap.size + 4, 1, none⟩ = false ∧ W.frozen? ⟨w.heap.size + 4, 2, none⟩ = false ∧ W.frozen? ⟨w.heap.size + 4, 3, none⟩ = false ∧ W.frozen? ⟨w.heap.size + 4, 4, none⟩ = false ∧ W.frozen? ⟨w.heap.size + 4, 5, none⟩ = false ∧ W.frozen? ⟨w.heap.size + 4, 6, none⟩ = false) := fun W h => ⟨⟨h.1.cell 0 rfl, h.1.cell 1 rfl⟩, ⟨h.2.1.cell 0 rfl, h.2.1.cell 1 rfl, h.2.1.cell 2 rfl, h.2.1.cell 3 rfl, h.2.1.cell 4 rfl, h.2.1.cell 5 rfl, h.2.1.cell 6 rfl⟩, ⟨h.2.2.1.cell 0 rfl, h.2.2.1.cell 1 rfl, h.2.2.1.cell 2 rfl, h.2.2.1.cell 3 rfl, h.2.2.1.cell 4 rfl, h.2.2.1.cell 5 rfl⟩, ⟨h.2.2.2.1.cell 0 rfl, h.2.2.2.1.cell 1 rfl, h.2.2.2.1.cell 2 rfl, h.2.2.2.1.cell 3 rfl⟩, ⟨h.2.2.2.2.1.cell 0 rfl, h.2.2.2.2.1.cell 1 rfl, h.2.2.2.2.1.cell 2 rfl, h.2.2.2.2.1.cell 3 rfl, h.2.2.2.2.1.cell 4 rfl, h.2.2.2.2.1.cell 5 rfl, h.2.2.2.2.1.cell 6 rfl⟩, ⟨h.2.2.2.2.1.frozen 0, h.2.2.2.2.1.frozen 1, h.2.2.2.2.1.frozen 2, h.2.2.2.2.1.frozen 3, h.2.2.2.2.1.frozen 4, h.2.2.2.2.1.frozen 5, h.2.2.2.2.1.frozen 6⟩⟩
    obtain ⟨w0, hw0⟩ : ∃ W, ((((w.alloc (Obj.cells #[Value.int .i64 tp, Value.int .i64 ts] 25)).alloc (Obj.cells #[Value.int .i64 yh, Value.int .i64 yt, Value.string ya, Value.string yv, Value.string yn, Value.string yd, Value.slice p l.length cap] 30)).alloc (Obj.cells #[Value.int .i64 h, Value.int .i64 t, Value.string aa, Value.string v, Value.string n, Value.string d] 27)).alloc (Obj.cells #[Value.int .i64 ch, Value.int .i64 cr, Value.string ci, Value.slice b cl.length cb] 33)).alloc (Obj.cells #[Value.int .i64 0, Value.int .i64 0, Value.string ⟨#[]⟩, Value.string ⟨#[]⟩, Value.string ⟨#[]⟩, Value.string ⟨#[]⟩, Value.slice none 0 0] 30) = W := ⟨_, rfl⟩
    have HA0 : Hid (Fiv w w0 ⟨tp, ts⟩ ⟨yh, yt, ya, yv, yn, yd⟩ (.slice p l.length cap) ⟨h, t, aa, v, n, d⟩ ⟨ch, cr, ci, cl⟩ b cb) := by rw [← hw0]; exact H0.out
    clear H0
    obtain ⟨⟨at0, at1⟩, ⟨ay0, ay1, ay2, ay3, ay4, ay5, ay6⟩, ⟨ax0, ax1, ax2, ax3, ax4, ax5⟩, ⟨ac0, ac1, ac2, ac3⟩, ⟨az0, az1, az2, az3, az4, az5, az6⟩, ⟨fz0, fz1, fz2, fz3, fz4, fz5, fz6⟩⟩ := hflat _ HA0.out
    go_enter Tryz.func7, Tryz.ntmps7
    go_wp2_with fail
    try rw [hw0]
    refine (kT1 _ (HL.out.below HA0.out.2.2.2.2.2) (HT.out.below HA0.out.2.2.2.2.2 HT.out.pos)).mono ?_
    rintro e w1 ⟨rfl, bb⟩
    have HA1 : Hid (Fiv w w1 ⟨tp, ts⟩ ⟨yh, yt, ya, yv, yn, yd⟩ (.slice p l.length cap) ⟨h, t, aa, v, n, d⟩ ⟨ch, cr, ci, cl⟩ b cb) := HA0.out.step bb
    clear at0 at1 ay0 ay1 ay2 ay3 ay4 ay5 ay6 ax0 ax1 ax2 ax3 ax4 ax5 ac0 ac1 ac2 ac3 az0 az1 az2 az3 az4 az5 az6 fz0 fz1 fz2 fz3 fz4 fz5 fz6 bb HA0 hw0
    obtain ⟨⟨at0, at1⟩, ⟨ay0, ay1, ay2, ay3, ay4, ay5, ay6⟩, ⟨ax0, ax1, ax2, ax3, ax4, ax5⟩, ⟨ac0, ac1, ac2, ac3⟩, ⟨az0, az1, az2, az3, az4, az5, az6⟩, ⟨fz0, fz1, fz2, fz3, fz4, fz5, fz6⟩⟩ := hflat _ HA1.out
    go_wp2_with fail
    refine (kP1 _ (HL.out.below HA1.out.2.2.2.2.2) (HN.out.below HA1.out.2.2.2.2.2) (HS.out.below HA1.out.2.2.2.2.2) (HT.out.below HA1.out.2.2.2.2.2 HT.out.pos)).mono ?_
    rintro e w2 ⟨rfl, bb⟩
    have HA2 : Hid (Fiv w w2 ⟨tp, ts⟩ ⟨yh, yt, ya, yv, yn, yd⟩ (.slice p l.length cap) ⟨h, t, aa, v, n, d⟩ ⟨ch, cr, ci, cl⟩ b cb) := HA1.out.step bb
    clear at0 at1 ay0 ay1 ay2 ay3 ay4 ay5 ay6 ax0 ax1 ax2 ax3 ax4 ax5 ac0 ac1 ac2 ac3 az0 az1 az2 az3 az4 az5 az6 fz0 fz1 fz2 fz3 fz4 fz5 fz6 bb HA1
    obtain ⟨⟨at0, at1⟩, ⟨ay0, ay1, ay2, ay3, ay4, ay5, ay6⟩, ⟨ax0, ax1, ax2, ax3, ax4, ax5⟩, ⟨ac0, ac1, ac2, ac3⟩, ⟨az0, az1, az2, az3, az4, az5, az6⟩, ⟨fz0, fz1, fz2, fz3, fz4, fz5, fz6⟩⟩ := hflat _ HA2.out
    go_wp2_with fail
    refine (kC1 _ (HT.out.below HA2.out.2.2.2.2.2 HT.out.pos)).mono ?_
    rintro e w3 ⟨rfl, bb⟩
    have HA3 : Hid (Fiv w w3 ⟨tp, ts⟩ ⟨yh, yt, ya, yv, yn, yd⟩ (.slice p l.length cap) ⟨h, t, aa, v, n, d⟩ ⟨ch, cr, ci, cl⟩ b cb) := HA2.out.step bb
    clear at0 at1 ay0 ay1 ay2 ay3 ay4 ay5 ay6 ax0 ax1 ax2 ax3 ax4 ax5 ac0 ac1 ac2 ac3 az0 az1 az2 az3 az4 az5 az6 fz0 fz1 fz2 fz3 fz4 fz5 fz6 bb HA2
    obtain ⟨⟨at0, at1⟩, ⟨ay0, ay1, ay2, ay3, ay4, ay5, ay6⟩, ⟨ax0, ax1, ax2, ax3, ax4, ax5⟩, ⟨ac0, ac1, ac2, ac3⟩, ⟨az0, az1, az2, az3, az4, az5, az6⟩, ⟨fz0, fz1, fz2, fz3, fz4, fz5, fz6⟩⟩ := hflat _ HA3.out
    go_wp2_with fail
    refine (kA _ (HL.out.below HA3.out.2.2.2.2.2)).mono ?_
    rintro e w4 ⟨u, cu, rfl, HO, bb⟩
    have HA4 : Hid (Fiv w w4 ⟨tp, ts⟩ ⟨yh, yt, ya, yv, yn, yd⟩ (.slice p l.length cap) ⟨h, t, aa, v, n, d⟩ ⟨ch, cr, ci, cl⟩ b cb) := HA3.out.step bb
    clear at0 at1 ay0 ay1 ay2 ay3 ay4 ay5 ay6 ax0 ax1 ax2 ax3 ax4 ax5 ac0 ac1 ac2 ac3 az0 az1 az2 az3 az4 az5 az6 fz0 fz1 fz2 fz3 fz4 fz5 fz6 bb
    obtain ⟨⟨at0, at1⟩, ⟨ay0, ay1, ay2, ay3, ay4, ay5, ay6⟩, ⟨ax0, ax1, ax2, ax3, ax4, ax5⟩, ⟨ac0, ac1, ac2, ac3⟩, ⟨az0, az1, az2, az3, az4, az5, az6⟩, ⟨fz0, fz1, fz2, fz3, fz4, fz5, fz6⟩⟩ := hflat _ HA4.out
    obtain ⟨w9, hw9⟩ : ∃ W, (((((((w4).setCell ⟨w.heap.size + 4, 0, none⟩ (.int .i64 yh)).setCell ⟨w.heap.size + 4, 1, none⟩ (.int .i64 yt)).setCell ⟨w.heap.size + 4, 2, none⟩ (.string ya)).setCell ⟨w.heap.size + 4, 3, none⟩ (.string yv)).setCell ⟨w.heap.size + 4, 4, none⟩ (.string yn)).setCell ⟨w.heap.size + 4, 5, none⟩ (.string yd)).setCell ⟨w.heap.size + 4, 6, none⟩ (.slice u l.length cu) = W := ⟨_, rfl⟩
    have hsz : w.heap.size + 4 < w3.heap.size := HA3.out.2.2.2.2.1.lt
    have HZ : Hid (Blk w9 (w.heap.size + 4) [.int .i64 yh, .int .i64 yt, .string ya, .string yv, .string yn, .string yd, .slice u l.length cu] 30) := by rw [← hw9]; exact (((((((HA4.out.2.2.2.2.1).set 0 _).set 1 _).set 2 _).set 3 _).set 4 _).set 5 _).set 6 _
    have HF : Below w.heap.size w w9 := by rw [← hw9]; exact (((((((HA4.out.2.2.2.2.2).setCell (show w.heap.size ≤ w.heap.size + 4 by omega) _).setCell (show w.heap.size ≤ w.heap.size + 4 by omega) _).setCell (show w.heap.size ≤ w.heap.size + 4 by omega) _).setCell (show w.heap.size ≤ w.heap.size + 4 by omega) _).setCell (show w.heap.size ≤ w.heap.size + 4 by omega) _).setCell (show w.heap.size ≤ w.heap.size + 4 by omega) _).setCell (show w.heap.size ≤ w.heap.size + 4 by omega) _
    have HO9 : Hid (OwnV w9 w.heap.size (.slice u l.length cu) l) := by rw [← hw9]; exact own_low (ownsRow_setCell_below (ownsRow_setCell_below (ownsRow_setCell_below (ownsRow_setCell_below (ownsRow_setCell_below (ownsRow_setCell_below (ownsRow_setCell_below HO.out (show w.heap.size + 4 < w3.heap.size from hsz) _) (show w.heap.size + 4 < w3.heap.size from hsz) _) (show w.heap.size + 4 < w3.heap.size from hsz) _) (show w.heap.size + 4 < w3.heap.size from hsz) _) (show w.heap.size + 4 < w3.heap.size from hsz) _) (show w.heap.size + 4 < w3.heap.size from hsz) _) (show w.heap.size + 4 < w3.heap.size from hsz) _) (by omega)
    have r0 := HZ.out.cell 0 rfl
    have r1 := HZ.out.cell 1 rfl
    have r2 := HZ.out.cell 2 rfl
    have r3 := HZ.out.cell 3 rfl
    have r4 := HZ.out.cell 4 rfl
    have r5 := HZ.out.cell 5 rfl
    have r6 := HZ.out.cell 6 rfl
    go_wp2
    try rw [hw9]
    refine bodyPost_ret (v := .tuple #[.agg #[.int .i64 yh, .int .i64 yt, .string ya, .string yv, .string yn, .string yd, .slice u l.length cu], .int .i64 J]) ?_ rfl ⟨_, _, rfl, HO9, HF⟩
    skip
    simp [results, Tryz.results7, go_sem, r0, r1, r2, r3, r4, r5, r6]
  · subst hK
    have hJR := hR rfl
    have kP1 := kP hJR.1 hJR.2
    have HN1 : N = J := by rw [HE.out, if_pos rfl]
    rw [HN1]
    subst hJ
    rw [HX]
    simp only
    have kT1 := kT
    rw [err_no] at kT1 kP1
    have kC1 := kC 0
    rw [err_no] at kC1
    clear kT kC kP kA hR HE HA HX HN1 hJR
    obtain ⟨tp, ts⟩ := t
    obtain ⟨yh, yt, ya, yv, yn, yd⟩ := y
    obtain ⟨h, t, aa, v, n, d⟩ := x
    obtain ⟨ch, cr, ci, cl⟩ := c
    unfold trV aV hV cV at *
    unfold fivW trcs acs hcs ccs at H0
    simp only at *
    have hflat : ∀ W, Fiv w W ⟨tp, ts⟩ ⟨yh, yt, ya, yv, yn, yd⟩ (.slice p l.length cap) ⟨h, t, aa, v, n, d⟩ ⟨ch, cr, ci, cl⟩ b cb → (W.cell? ⟨w.heap.size, 0, none⟩ = some (.int .i64 tp) ∧ W.cell? ⟨w.heap.size, 1, none⟩ = some (.int .i64 ts)) ∧ (W.cell? ⟨w.heap.size + 1, 0, none⟩ = some (.int .i64 yh) ∧ W.cell? ⟨w.heap.size + 1, 1, none⟩ = some (.int .i64 yt) ∧ W.cell? ⟨w.heap.size + 1, 2, none⟩ = some (.string ya) ∧ W.cell? ⟨w.heap.size + 1, 3, none⟩ = some (.string yv) ∧ W.cell? ⟨w.heap.size + 1, 4, none⟩ = some (.string yn) ∧ W.cell? ⟨w.heap.size + 1, 5, none⟩ = some (.string yd) ∧ W.cell? ⟨w.heap.size + 1, 6, none⟩ = some (.slice p l.length cap)) ∧ (W.cell? ⟨w.heap.size + 2, 0, none⟩ = some (.int .i64 h) ∧ W.cell? ⟨w.heap.size + 2, 1, none⟩ = some (.int .i64 t) ∧ W.cell? ⟨w.heap.size + 2, 2, none⟩ = some (.string aa) ∧ W.cell? ⟨w.heap.size + 2, 3, none⟩ = some (.string v) ∧ W.cell? ⟨w.heap.size + 2, 4, none⟩ = some (.string n) ∧ W.cell? ⟨w.heap.size + 2, 5, none⟩ = some (.string d)) ∧ (W.cell? ⟨w.heap.size + 3, 0, none⟩ = some (.int .i64 ch) ∧ W.cell? ⟨w.heap.size + 3, 1, none⟩ = some (.int .i64 cr) ∧ W.cell? ⟨w.heap.size + 3, 2, none⟩ = some (.string ci) ∧ W.cell? ⟨w.heap.size + 3, 3, none⟩ = some (.slice b cl.length cb)) ∧ (W.cell? ⟨w.heap.size + 4, 0, none⟩ = some (.int .i64 0) ∧ W.cell? ⟨w.heap.size + 4, 1, none⟩ = some (.int .i64 0) ∧ W.cell? ⟨w.heap.size + 4, 2, none⟩ = some (.string ⟨#[]⟩) ∧ W.cell? ⟨w.heap.size + 4, 3, none⟩ = some (.string ⟨#[]⟩) ∧ W.cell? ⟨w.heap.size + 4, 4, none⟩ = some (.string ⟨#[]⟩) ∧ W.cell? ⟨w.heap.size + 4, 5, none⟩ = some (.string ⟨#[]⟩) ∧ W.cell? ⟨w.heap.size + 4, 6, none⟩ = some (.slice none 0 0)) ∧ (W.frozen? ⟨w.heap.size + 4, 0, none⟩ = false ∧ W.frozen? ⟨w.heap.size + 4, 1, none⟩ = false ∧ W.frozen? ⟨w.heap.size + 4, 2, none⟩ = false ∧ W.frozen? ⟨w.heap.size + 4, 3, none⟩ = false ∧ W.frozen? ⟨w.heap.size + 4, 4, none⟩ = false ∧ W.frozen? ⟨w.heap.size + 4, 5, none⟩ = false ∧ W.frozen? ⟨w.heap.size + 4, 6, none⟩ = false) := fun W h => ⟨⟨h.1.cell 0 rfl, h.1.cell 1 rfl⟩, ⟨h.2.1.cell 0 rfl, h.2.1.cell 1 rfl, h.2.1.cell 2 rfl, h.2.1.cell 3 rfl, h.2.1.cell 4 rfl, h.2.1.cell 5 rfl, h.2.1.cell 6 rfl⟩, ⟨h.2.2.1.cell 0 rfl, h.2.2.1.cell 1 rfl, h.2.2.1.cell 2 rfl, h.2.2.1.cell 3 rfl, h.2.2.1.cell 4 rfl, h.2.2.1.cell 5 rfl⟩, ⟨h.2.2.2.1.cell 0 rfl, h.2.2.2.1.cell 1 rfl, h.2.2.2.1.cell 2 rfl, h.2.2.2.1.cell 3 rfl⟩, ⟨h.2.2.2.2.1.cell 0 rfl, h.2.2.2.2.1.cell 1 rfl, h.2.2.2.2.1.cell 2 rfl, h.2.2.2.2.1.cell 3 rfl, h.2.2.2.2.1.cell 4 rfl, h.2.2.2.2.1.cell 5 rfl, h.2.2.2.2.1.cell 6 rfl⟩, ⟨h.2.2.2.2.1.frozen 0, h.2.2.2.2.1.frozen 1, h.2.2.2.2.1.frozen 2, h.2.2.2.2.1.frozen 3, h.2.2.2.2.1.frozen 4, h.2.2.2.2.1.frozen 5, h.2.2.2.2.1.frozen 6⟩⟩
    obtain ⟨w0, hw0⟩ : ∃ W, ((((w.alloc (Obj.cells #[Value.int .i64 tp, Value.int .i64 ts] 25)).alloc (Obj.cells #[Value.int .i64 yh, Value.int .i64 yt, Value.string ya, Value.string yv, Value.string yn, Value.string yd, Value.slice p l.length cap] 30)).alloc (Obj.cells #[Value.int .i64 h, Value.int .i64 t, Value.string aa, Value.string v, Value.string n, Value.string d] 27)).alloc (Obj.cells #[Value.int .i64 ch, Value.int .i64 cr, Value.string ci, Value.slice b cl.length cb] 33)).alloc (Obj.cells #[Value.int .i64 0, Value.int .i64 0, Value.string ⟨#[]⟩, Value.string ⟨#[]⟩, Value.string ⟨#[]⟩, Value.string ⟨#[]⟩, Value.slice none 0 0] 30) = W := ⟨_, rfl⟩
    have HA0 : Hid (Fiv w w0 ⟨tp, ts⟩ ⟨yh, yt, ya, yv, yn, yd⟩ (.slice p l.length cap) ⟨h, t, aa, v, n, d⟩ ⟨ch, cr, ci, cl⟩ b cb) := by rw [← hw0]; exact H0.out
    clear H0
    obtain ⟨⟨at0, at1⟩, ⟨ay0, ay1, ay2, ay3, ay4, ay5, ay6⟩, ⟨ax0, ax1, ax2, ax3, ax4, ax5⟩, ⟨ac0, ac1, ac2, ac3⟩, ⟨az0, az1, az2, az3, az4, az5, az6⟩, ⟨fz0, fz1, fz2, fz3, fz4, fz5, fz6⟩⟩ := hflat _ HA0.out
    go_enter Tryz.func7, Tryz.ntmps7
    go_wp2_with fail
    try rw [hw0]
    refine (kT1 _ (HL.out.below HA0.out.2.2.2.2.2) (HT.out.below HA0.out.2.2.2.2.2 HT.out.pos)).mono ?_
    rintro e w1 ⟨rfl, bb⟩
    have HA1 : Hid (Fiv w w1 ⟨tp, ts⟩ ⟨yh, yt, ya, yv, yn, yd⟩ (.slice p l.length cap) ⟨h, t, aa, v, n, d⟩ ⟨ch, cr, ci, cl⟩ b cb) := HA0.out.step bb
    clear at0 at1 ay0 ay1 ay2 ay3 ay4 ay5 ay6 ax0 ax1 ax2 ax3 ax4 ax5 ac0 ac1 ac2 ac3 az0 az1 az2 az3 az4 az5 az6 fz0 fz1 fz2 fz3 fz4 fz5 fz6 bb HA0 hw0
    obtain ⟨⟨at0, at1⟩, ⟨ay0, ay1, ay2, ay3, ay4, ay5, ay6⟩, ⟨ax0, ax1, ax2, ax3, ax4, ax5⟩, ⟨ac0, ac1, ac2, ac3⟩, ⟨az0, az1, az2, az3, az4, az5, az6⟩, ⟨fz0, fz1, fz2, fz3, fz4, fz5, fz6⟩⟩ := hflat _ HA1.out
    go_wp2_with fail
    refine (kP1 _ (HL.out.below HA1.out.2.2.2.2.2) (HN.out.below HA1.out.2.2.2.2.2) (HS.out.below HA1.out.2.2.2.2.2) (HT.out.below HA1.out.2.2.2.2.2 HT.out.pos)).mono ?_
    rintro e w2 ⟨rfl, bb⟩
    have HA2 : Hid (Fiv w w2 ⟨tp, ts⟩ ⟨yh, yt, ya, yv, yn, yd⟩ (.slice p l.length cap) ⟨h, t, aa, v, n, d⟩ ⟨ch, cr, ci, cl⟩ b cb) := HA1.out.step bb
    clear at0 at1 ay0 ay1 ay2 ay3 ay4 ay5 ay6 ax0 ax1 ax2 ax3 ax4 ax5 ac0 ac1 ac2 ac3 az0 az1 az2 az3 az4 az5 az6 fz0 fz1 fz2 fz3 fz4 fz5 fz6 bb HA1
    obtain ⟨⟨at0, at1⟩, ⟨ay0, ay1, ay2, ay3, ay4, ay5, ay6⟩, ⟨ax0, ax1, ax2, ax3, ax4, ax5⟩, ⟨ac0, ac1, ac2, ac3⟩, ⟨az0, az1, az2, az3, az4, az5, az6⟩, ⟨fz0, fz1, fz2, fz3, fz4, fz5, fz6⟩⟩ := hflat _ HA2.out
    go_wp2_with fail
    refine (kC1 _ (HT.out.below HA2.out.2.2.2.2.2 HT.out.pos)).mono ?_
    rintro e w3 ⟨rfl, bb⟩
    have HA3 : Hid (Fiv w w3 ⟨tp, ts⟩ ⟨yh, yt, ya, yv, yn, yd⟩ (.slice p l.length cap) ⟨h, t, aa, v, n, d⟩ ⟨ch, cr, ci, cl⟩ b cb) := HA2.out.step bb
    clear at0 at1 ay0 ay1 ay2 ay3 ay4 ay5 ay6 ax0 ax1 ax2 ax3 ax4 ax5 ac0 ac1 ac2 ac3 az0 az1 az2 az3 az4 az5 az6 fz0 fz1 fz2 fz3 fz4 fz5 fz6 bb HA2
    obtain ⟨⟨at0, at1⟩, ⟨ay0, ay1, ay2, ay3, ay4, ay5, ay6⟩, ⟨ax0, ax1, ax2, ax3, ax4, ax5⟩, ⟨ac0, ac1, ac2, ac3⟩, ⟨az0, az1, az2, az3, az4, az5, az6⟩, ⟨fz0, fz1, fz2, fz3, fz4, fz5, fz6⟩⟩ := hflat _ HA3.out
    go_wp2_with fail
    refine (kX _ (HN.out.below HA3.out.2.2.2.2.2)).mono ?_
    rintro e w4 ⟨u, cu, rfl, HO, bb⟩
    have HA4 : Hid (Fiv w w4 ⟨tp, ts⟩ ⟨yh, yt, ya, yv, yn, yd⟩ (.slice p l.length cap) ⟨h, t, aa, v, n, d⟩ ⟨ch, cr, ci, cl⟩ b cb) := HA3.out.step bb
    clear at0 at1 ay0 ay1 ay2 ay3 ay4 ay5 ay6 ax0 ax1 ax2 ax3 ax4 ax5 ac0 ac1 ac2 ac3 az0 az1 az2 az3 az4 az5 az6 fz0 fz1 fz2 fz3 fz4 fz5 fz6 bb
    obtain ⟨⟨at0, at1⟩, ⟨ay0, ay1, ay2, ay3, ay4, ay5, ay6⟩, ⟨ax0, ax1, ax2, ax3, ax4, ax5⟩, ⟨ac0, ac1, ac2, ac3⟩, ⟨az0, az1, az2, az3, az4, az5, az6⟩, ⟨fz0, fz1, fz2, fz3, fz4, fz5, fz6⟩⟩ := hflat _ HA4.out
    obtain ⟨w9, hw9⟩ : ∃ W, (((((((w4).setCell ⟨w.heap.size + 4, 0, none⟩ (.int .i64 h)).setCell ⟨w.heap.size + 4, 1, none⟩ (.int .i64 t)).setCell ⟨w.heap.size + 4, 2, none⟩ (.string aa)).setCell ⟨w.heap.size + 4, 3, none⟩ (.string v)).setCell ⟨w.heap.size + 4, 4, none⟩ (.string n)).setCell ⟨w.heap.size + 4, 5, none⟩ (.string d)).setCell ⟨w.heap.size + 4, 6, none⟩ (.slice u nx.length cu) = W := ⟨_, rfl⟩
    have hsz : w.heap.size + 4 < w3.heap.size := HA3.out.2.2.2.2.1.lt
    have HZ : Hid (Blk w9 (w.heap.size + 4) [.int .i64 h, .int .i64 t, .string aa, .string v, .string n, .string d, .slice u nx.length cu] 30) := by rw [← hw9]; exact (((((((HA4.out.2.2.2.2.1).set 0 _).set 1 _).set 2 _).set 3 _).set 4 _).set 5 _).set 6 _
    have HF : Below w.heap.size w w9 := by rw [← hw9]; exact (((((((HA4.out.2.2.2.2.2).setCell (show w.heap.size ≤ w.heap.size + 4 by omega) _).setCell (show w.heap.size ≤ w.heap.size + 4 by omega) _).setCell (show w.heap.size ≤ w.heap.size + 4 by omega) _).setCell (show w.heap.size ≤ w.heap.size + 4 by omega) _).setCell (show w.heap.size ≤ w.heap.size + 4 by omega) _).setCell (show w.heap.size ≤ w.heap.size + 4 by omega) _).setCell (show w.heap.size ≤ w.heap.size + 4 by omega) _
    have HO9 : Hid (OwnV w9 w.heap.size (.slice u nx.length cu) nx) := by rw [← hw9]; exact own_low (ownsRow_setCell_below (ownsRow_setCell_below (ownsRow_setCell_below (ownsRow_setCell_below (ownsRow_setCell_below (ownsRow_setCell_below (ownsRow_setCell_below HO.out (show w.heap.size + 4 < w3.heap.size from hsz) _) (show w.heap.size + 4 < w3.heap.size from hsz) _) (show w.heap.size + 4 < w3.heap.size from hsz) _) (show w.heap.size + 4 < w3.heap.size from hsz) _) (show w.heap.size + 4 < w3.heap.size from hsz) _) (show w.heap.size + 4 < w3.heap.size from hsz) _) (show w.heap.size + 4 < w3.heap.size from hsz) _) (by omega)
    have r0 := HZ.out.cell 0 rfl
    have r1 := HZ.out.cell 1 rfl
    have r2 := HZ.out.cell 2 rfl
    have r3 := HZ.out.cell 3 rfl
    have r4 := HZ.out.cell 4 rfl
    have r5 := HZ.out.cell 5 rfl
    have r6 := HZ.out.cell 6 rfl
    go_wp2
    try rw [hw9]
    refine bodyPost_ret (v := .tuple #[.agg #[.int .i64 h, .int .i64 t, .string aa, .string v, .string n, .string d, .slice u nx.length cu], .int .i64 0]) ?_ rfl ⟨_, _, rfl, HO9, HF⟩
    skip
    simp [results, Tryz.results7, go_sem, r0, r1, r2, r3, r4, r5, r6]
end Go.Proofs.YtajfmjgaaapjeaaGreatDoor
