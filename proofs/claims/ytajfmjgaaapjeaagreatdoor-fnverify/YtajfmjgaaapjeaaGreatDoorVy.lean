/- Verification in plain terms, and what asksTime and asksPlace answer; old memory stays. Conditions: what a machine can hold; the listed variables. -/
import Derived.Test.YtajfmjgaaapjeaaGreatDoorAn
import Derived.Test.YtajfmjgaaapjeaaGreatDoorTr
import Derived.Test.YtajfmjgaaapjeaaGreatDoorAs
import Derived.Test.YtajfmjgaaapjeaaGreatDoorCok
namespace Go.Proofs.YtajfmjgaaapjeaaGreatDoor
open Go.RowKit
open Num
set_option linter.unusedVariables false
def rightN (t : Tr) (a : An) (x : H) (n : Int) : Bool := tOk t && (aOk a && (hOk x && isT n))
/-- The codes: 1 for what is not right, 2 and 3 for what is not now; 0 where there is none of these. -/
def timeN (t : Tr) (a : An) (x : H) (n : Int) : Int := if rightN t a x n = true then (if a.x.t + t.p < n then 2 else if n + t.s < x.t then 3 else 0) else 1
/-- 4 to 9 for what does not follow. -/
def placeN (a : An) (x : H) (nx : List V) (c : Ct) : Int :=
  if x.h = a.x.h + 1 then (if x.t ≤ a.x.t then 5 else if x.a = headI a.x then (if x.v = a.x.n then (if vOk nx = true ∧ x.n = hashV nx then (if comOk a.l x c = true then 0 else 9) else 8) else 7) else 6) else 4
def verN (t : Tr) (a : An) (x : H) (nx : List V) (c : Ct) (n : Int) : Int := if timeN t a x n = 0 then placeN a x nx c else timeN t a x n
theorem right_all {t : Tr} {a : An} {x : H} {n : Int} (h : rightN t a x n = true) : tOk t = true ∧ aOk a = true ∧ hOk x = true ∧ isT n = true := by
  unfold rightN at h
  rw [Bool.and_eq_true, Bool.and_eq_true, Bool.and_eq_true] at h
  exact h
theorem right_nums {t : Tr} {a : An} {x : H} {n : Int} (h : rightN t a x n = true) : (1 ≤ t.p ∧ t.p ≤ 100000) ∧ (0 ≤ t.s ∧ t.s ≤ 1000) ∧ (1 ≤ a.x.h ∧ a.x.h ≤ 1000000) ∧ (0 ≤ a.x.t ∧ a.x.t ≤ 1000000) ∧ (1 ≤ x.h ∧ x.h ≤ 1000000) ∧ (0 ≤ x.t ∧ x.t ≤ 1000000) ∧ (0 ≤ n ∧ n ≤ 1000000) := by
  obtain ⟨h1, h2, h3, h4⟩ := right_all h
  have k1 := (tOk_iff t).1 h1
  have k2 := (hOk_iff _).1 (aOk_h h2)
  have k3 := (hOk_iff _).1 h3
  have k4 := (in_iff n 0 1000000).1 h4
  omega
theorem time_zero {t : Tr} {a : An} {x : H} {n : Int} (h : timeN t a x n = 0) : rightN t a x n = true := by
  unfold timeN at h
  split at h
  · assumption
  · cases h
/-- A right header's Next is nobody's empty hash. -/
theorem next_short {x : H} {nx : List V} (h : hOk x = true) : (vOk nx = true ∧ x.n = hashV nx) ↔ x.n = hashV nx := by
  refine ⟨fun k => k.2, fun k => ⟨?_, k⟩⟩
  have h8 := ((hOk_iff x).1 h).2.2.2.2.2.2.2
  cases h2 : vOk nx with
  | true => rfl
  | false =>
    have e2 : hashV nx = ⟨#[]⟩ := by unfold hashV; rw [h2]; rfl
    rw [k, e2] at h8
    exact absurd h8 (by decide)
/-- Trust, anchor and header in their blocks; old memory stands. -/
def Tri (w W : World) (t : Tr) (y : H) (q : Value) (x : H) : Prop := Blk W w.heap.size [.int .i64 t.p, .int .i64 t.s] 25 ∧ Blk W (w.heap.size + 1) (acs y q) 30 ∧ Blk W (w.heap.size + 2) (hcs x).toList 27 ∧ Below w.heap.size w W
theorem Tri.step {w W W' : World} {t : Tr} {y : H} {q : Value} {x : H} (h : Tri w W t y q x) (hb : Below W.heap.size W W') : Tri w W' t y q x :=
  ⟨h.1.below hb h.1.lt, h.2.1.below hb h.2.1.lt, h.2.2.1.below hb h.2.2.1.lt, h.2.2.2.trans (hb.mono h.2.2.2.size)⟩
theorem tri_new (w : World) (t : Tr) (y : H) (q : Value) (x : H) : Tri w (((w.alloc (.cells (trcs t) 25)).alloc (.cells (acs y q).toArray 30)).alloc (.cells (hcs x) 27)) t y q x := by
  have e1 : (w.alloc (.cells (trcs t) 25)).heap.size = w.heap.size + 1 := by simp
  have e2 : ((w.alloc (.cells (trcs t) 25)).alloc (.cells (acs y q).toArray 30)).heap.size = w.heap.size + 2 := by simp
  refine ⟨?_, ?_, ?_, ?_⟩
  · exact ((blk_new w [.int .i64 t.p, .int .i64 t.s] _).alloc _).alloc _
  · have h := (blk_new (w.alloc (.cells (trcs t) 25)) (acs y q) 30).alloc (.cells (hcs x) 27)
    rw [e1] at h; exact h
  · have h := blk_new ((w.alloc (.cells (trcs t) 25)).alloc (.cells (acs y q).toArray 30)) (hcs x).toList 27
    rw [e2] at h; exact h
  · exact (((Below.refl _ _).alloc (Nat.le_refl _) _).alloc (by simp) _).alloc (by simp; omega) _
/-- Anchor, header and commit in their blocks; old memory stands. -/
def Trp (w W : World) (y : H) (q : Value) (x : H) (c : Ct) (b : Option Addr) (cb : Nat) : Prop := Blk W w.heap.size (acs y q) 30 ∧ Blk W (w.heap.size + 1) (hcs x).toList 27 ∧ Blk W (w.heap.size + 2) (ccs c b cb) 33 ∧ Below w.heap.size w W
theorem Trp.step {w W W' : World} {y : H} {q : Value} {x : H} {c : Ct} {b : Option Addr} {cb : Nat} (h : Trp w W y q x c b cb) (hb : Below W.heap.size W W') : Trp w W' y q x c b cb :=
  ⟨h.1.below hb h.1.lt, h.2.1.below hb h.2.1.lt, h.2.2.1.below hb h.2.2.1.lt, h.2.2.2.trans (hb.mono h.2.2.2.size)⟩
theorem trp_new (w : World) (y : H) (q : Value) (x : H) (c : Ct) (b : Option Addr) (cb : Nat) : Trp w (((w.alloc (.cells (acs y q).toArray 30)).alloc (.cells (hcs x) 27)).alloc (.cells (ccs c b cb).toArray 33)) y q x c b cb := by
  have e1 : (w.alloc (.cells (acs y q).toArray 30)).heap.size = w.heap.size + 1 := by simp
  have e2 : ((w.alloc (.cells (acs y q).toArray 30)).alloc (.cells (hcs x) 27)).heap.size = w.heap.size + 2 := by simp
  refine ⟨?_, ?_, ?_, ?_⟩
  · exact ((blk_new w _ _).alloc _).alloc _
  · have h := (blk_new (w.alloc (.cells (acs y q).toArray 30)) (hcs x).toList 27).alloc (.cells (ccs c b cb).toArray 33)
    rw [e1] at h; exact h
  · have h := blk_new ((w.alloc (.cells (acs y q).toArray 30)).alloc (.cells (hcs x) 27)) (ccs c b cb) 33
    rw [e2] at h; exact h
  · exact (((Below.refl _ _).alloc (Nat.le_refl _) _).alloc (by simp) _).alloc (by simp; omega) _
set_option maxHeartbeats 3200000 in
set_option maxRecDepth 100000 in
theorem asks_time (t : Tr) (y : H) (l : List V) (p : Option Addr) (cap : Nat) (x : H) (z : Int) (w : World) (hl : VO w p l) (hlen : l.length ≤ 9223372036854775807) (hT : Tab w) :
    Calls Tryz.prog 38 #[trV t, aV y (.slice p l.length cap), hV x, .int .i64 z] w fun e w' => e = .returned (errV (timeN t ⟨y, l⟩ x z)) ∧ Below w.heap.size w w' := by
  have H0 : Hid (Tri w (((w.alloc (.cells (trcs t) 25)).alloc (.cells (acs y (.slice p l.length cap)).toArray 30)).alloc (.cells (hcs x) 27)) t y (.slice p l.length cap) x) := tri_new w t y _ x
  have HT : Hid (Tab w) := hT
  have HL : Hid (VO w p l) := hl
  have kO := fun W => impl_tok t W
  have kA := fun W (h : VO W p l) (h' : Tab W) => impl_anchor y l p cap W h hlen h'
  have kH := fun W => impl_ok x W
  have kT := fun W => impl_time z W
  have kE := fun W => impl_exp t y.t W
  have HR : ∀ a b c d : Bool, tOk t = a → aOk ⟨y, l⟩ = b → hOk x = c → isT z = d → rightN t ⟨y, l⟩ x z = (a && (b && (c && d))) := fun a b c d h1 h2 h3 h4 => by unfold rightN; rw [h1, h2, h3, h4]
  have HN := @right_nums t ⟨y, l⟩ x z
  have HQ : rightN t ⟨y, l⟩ x z = true → expT t y.t = y.t + t.p := fun h => by
    obtain ⟨h1, h2, h3, h4⟩ := right_all h
    exact expT_yes h1 (in_yes (by have := (hOk_iff _).1 (aOk_h h2); exact ⟨this.2.2.1, this.2.2.2.1⟩))
  have HE : Hid (timeN t ⟨y, l⟩ x z = if rightN t ⟨y, l⟩ x z = true then (if y.t + t.p < z then 2 else if z + t.s < x.t then 3 else 0) else 1) := rfl
  generalize timeN t ⟨y, l⟩ x z = N at *
  generalize rightN t ⟨y, l⟩ x z = R at *
  generalize expT t y.t = E at *
  rcases h1 : tOk t with _ | _ <;> rw [h1] at kO HR <;> rcases h2 : aOk ⟨y, l⟩ with _ | _ <;> rw [h2] at kA HR <;> rcases h3 : hOk x with _ | _ <;> rw [h3] at kH HR <;> rcases h4 : isT z with _ | _ <;> rw [h4] at kT HR
  · obtain rfl : R = false := HR false false false false rfl rfl rfl rfl
    have HF : Hid (N = 1) := by show _ = _; rw [HE.out]; rfl
    clear HE HN HQ HR h1 h2 h3 h4
    obtain ⟨tp, ts⟩ := t
    obtain ⟨yh, yt, ya, yv, yn, yd⟩ := y
    obtain ⟨h, t, aa, v, n, d⟩ := x
    unfold trV aV hV at *
    unfold trcs acs hcs at H0
    simp only at *
    generalize l.length = m at *
    have hflat : ∀ W, Tri w W ⟨tp, ts⟩ ⟨yh, yt, ya, yv, yn, yd⟩ (.slice p m cap) ⟨h, t, aa, v, n, d⟩ → (W.cell? ⟨w.heap.size, 0, none⟩ = some (.int .i64 tp) ∧ W.cell? ⟨w.heap.size, 1, none⟩ = some (.int .i64 ts)) ∧ (W.cell? ⟨w.heap.size + 1, 0, none⟩ = some (.int .i64 yh) ∧ W.cell? ⟨w.heap.size + 1, 1, none⟩ = some (.int .i64 yt) ∧ W.cell? ⟨w.heap.size + 1, 2, none⟩ = some (.string ya) ∧ W.cell? ⟨w.heap.size + 1, 3, none⟩ = some (.string yv) ∧ W.cell? ⟨w.heap.size + 1, 4, none⟩ = some (.string yn) ∧ W.cell? ⟨w.heap.size + 1, 5, none⟩ = some (.string yd) ∧ W.cell? ⟨w.heap.size + 1, 6, none⟩ = some (.slice p m cap)) ∧ (W.cell? ⟨w.heap.size + 2, 0, none⟩ = some (.int .i64 h) ∧ W.cell? ⟨w.heap.size + 2, 1, none⟩ = some (.int .i64 t) ∧ W.cell? ⟨w.heap.size + 2, 2, none⟩ = some (.string aa) ∧ W.cell? ⟨w.heap.size + 2, 3, none⟩ = some (.string v) ∧ W.cell? ⟨w.heap.size + 2, 4, none⟩ = some (.string n) ∧ W.cell? ⟨w.heap.size + 2, 5, none⟩ = some (.string d)) := fun W h => ⟨⟨h.1.cell 0 rfl, h.1.cell 1 rfl⟩, ⟨h.2.1.cell 0 rfl, h.2.1.cell 1 rfl, h.2.1.cell 2 rfl, h.2.1.cell 3 rfl, h.2.1.cell 4 rfl, h.2.1.cell 5 rfl, h.2.1.cell 6 rfl⟩, ⟨h.2.2.1.cell 0 rfl, h.2.2.1.cell 1 rfl, h.2.2.1.cell 2 rfl, h.2.2.1.cell 3 rfl, h.2.2.1.cell 4 rfl, h.2.2.1.cell 5 rfl⟩⟩
    obtain ⟨w0, hw0⟩ : ∃ W, ((w.alloc (Obj.cells #[Value.int .i64 tp, Value.int .i64 ts] 25)).alloc (Obj.cells #[Value.int .i64 yh, Value.int .i64 yt, Value.string ya, Value.string yv, Value.string yn, Value.string yd, Value.slice p m cap] 30)).alloc (Obj.cells #[Value.int .i64 h, Value.int .i64 t, Value.string aa, Value.string v, Value.string n, Value.string d] 27) = W := ⟨_, rfl⟩
    have HA0 : Hid (Tri w w0 ⟨tp, ts⟩ ⟨yh, yt, ya, yv, yn, yd⟩ (.slice p m cap) ⟨h, t, aa, v, n, d⟩) := by rw [← hw0]; exact H0.out
    clear H0
    obtain ⟨⟨at0, at1⟩, ⟨ay0, ay1, ay2, ay3, ay4, ay5, ay6⟩, ⟨ax0, ax1, ax2, ax3, ax4, ax5⟩⟩ := hflat _ HA0.out
    have HF2 : Hid (errV N = .iface 114 (.agg #[.int .i64 1])) := by show _ = _; rw [HF.out]; rfl
    rw [HF2.out]
    clear HF HF2
    go_enter Tryz.func38, Tryz.ntmps38
    go_wp2_with fail
    try rw [hw0]
    refine (kO _).mono ?_
    rintro e w1 ⟨rfl, bb⟩
    have HA1 : Hid (Tri w w1 ⟨tp, ts⟩ ⟨yh, yt, ya, yv, yn, yd⟩ (.slice p m cap) ⟨h, t, aa, v, n, d⟩) := HA0.out.step bb
    clear at0 at1 ay0 ay1 ay2 ay3 ay4 ay5 ay6 ax0 ax1 ax2 ax3 ax4 ax5 bb HA0 hw0
    obtain ⟨⟨at0, at1⟩, ⟨ay0, ay1, ay2, ay3, ay4, ay5, ay6⟩, ⟨ax0, ax1, ax2, ax3, ax4, ax5⟩⟩ := hflat _ HA1.out
    go_wp2
    go_ret
    exact ⟨rfl, HA1.out.2.2.2⟩
  · obtain rfl : R = false := HR false false false true rfl rfl rfl rfl
    have HF : Hid (N = 1) := by show _ = _; rw [HE.out]; rfl
    clear HE HN HQ HR h1 h2 h3 h4
    obtain ⟨tp, ts⟩ := t
    obtain ⟨yh, yt, ya, yv, yn, yd⟩ := y
    obtain ⟨h, t, aa, v, n, d⟩ := x
    unfold trV aV hV at *
    unfold trcs acs hcs at H0
    simp only at *
    generalize l.length = m at *
    have hflat : ∀ W, Tri w W ⟨tp, ts⟩ ⟨yh, yt, ya, yv, yn, yd⟩ (.slice p m cap) ⟨h, t, aa, v, n, d⟩ → (W.cell? ⟨w.heap.size, 0, none⟩ = some (.int .i64 tp) ∧ W.cell? ⟨w.heap.size, 1, none⟩ = some (.int .i64 ts)) ∧ (W.cell? ⟨w.heap.size + 1, 0, none⟩ = some (.int .i64 yh) ∧ W.cell? ⟨w.heap.size + 1, 1, none⟩ = some (.int .i64 yt) ∧ W.cell? ⟨w.heap.size + 1, 2, none⟩ = some (.string ya) ∧ W.cell? ⟨w.heap.size + 1, 3, none⟩ = some (.string yv) ∧ W.cell? ⟨w.heap.size + 1, 4, none⟩ = some (.string yn) ∧ W.cell? ⟨w.heap.size + 1, 5, none⟩ = some (.string yd) ∧ W.cell? ⟨w.heap.size + 1, 6, none⟩ = some (.slice p m cap)) ∧ (W.cell? ⟨w.heap.size + 2, 0, none⟩ = some (.int .i64 h) ∧ W.cell? ⟨w.heap.size + 2, 1, none⟩ = some (.int .i64 t) ∧ W.cell? ⟨w.heap.size + 2, 2, none⟩ = some (.string aa) ∧ W.cell? ⟨w.heap.size + 2, 3, none⟩ = some (.string v) ∧ W.cell? ⟨w.heap.size + 2, 4, none⟩ = some (.string n) ∧ W.cell? ⟨w.heap.size + 2, 5, none⟩ = some (.string d)) := fun W h => ⟨⟨h.1.cell 0 rfl, h.1.cell 1 rfl⟩, ⟨h.2.1.cell 0 rfl, h.2.1.cell 1 rfl, h.2.1.cell 2 rfl, h.2.1.cell 3 rfl, h.2.1.cell 4 rfl, h.2.1.cell 5 rfl, h.2.1.cell 6 rfl⟩, ⟨h.2.2.1.cell 0 rfl, h.2.2.1.cell 1 rfl, h.2.2.1.cell 2 rfl, h.2.2.1.cell 3 rfl, h.2.2.1.cell 4 rfl, h.2.2.1.cell 5 rfl⟩⟩
    obtain ⟨w0, hw0⟩ : ∃ W, ((w.alloc (Obj.cells #[Value.int .i64 tp, Value.int .i64 ts] 25)).alloc (Obj.cells #[Value.int .i64 yh, Value.int .i64 yt, Value.string ya, Value.string yv, Value.string yn, Value.string yd, Value.slice p m cap] 30)).alloc (Obj.cells #[Value.int .i64 h, Value.int .i64 t, Value.string aa, Value.string v, Value.string n, Value.string d] 27) = W := ⟨_, rfl⟩
    have HA0 : Hid (Tri w w0 ⟨tp, ts⟩ ⟨yh, yt, ya, yv, yn, yd⟩ (.slice p m cap) ⟨h, t, aa, v, n, d⟩) := by rw [← hw0]; exact H0.out
    clear H0
    obtain ⟨⟨at0, at1⟩, ⟨ay0, ay1, ay2, ay3, ay4, ay5, ay6⟩, ⟨ax0, ax1, ax2, ax3, ax4, ax5⟩⟩ := hflat _ HA0.out
    have HF2 : Hid (errV N = .iface 114 (.agg #[.int .i64 1])) := by show _ = _; rw [HF.out]; rfl
    rw [HF2.out]
    clear HF HF2
    go_enter Tryz.func38, Tryz.ntmps38
    go_wp2_with fail
    try rw [hw0]
    refine (kO _).mono ?_
    rintro e w1 ⟨rfl, bb⟩
    have HA1 : Hid (Tri w w1 ⟨tp, ts⟩ ⟨yh, yt, ya, yv, yn, yd⟩ (.slice p m cap) ⟨h, t, aa, v, n, d⟩) := HA0.out.step bb
    clear at0 at1 ay0 ay1 ay2 ay3 ay4 ay5 ay6 ax0 ax1 ax2 ax3 ax4 ax5 bb HA0 hw0
    obtain ⟨⟨at0, at1⟩, ⟨ay0, ay1, ay2, ay3, ay4, ay5, ay6⟩, ⟨ax0, ax1, ax2, ax3, ax4, ax5⟩⟩ := hflat _ HA1.out
    go_wp2
    go_ret
    exact ⟨rfl, HA1.out.2.2.2⟩
  · obtain rfl : R = false := HR false false true false rfl rfl rfl rfl
    have HF : Hid (N = 1) := by show _ = _; rw [HE.out]; rfl
    clear HE HN HQ HR h1 h2 h3 h4
    obtain ⟨tp, ts⟩ := t
    obtain ⟨yh, yt, ya, yv, yn, yd⟩ := y
    obtain ⟨h, t, aa, v, n, d⟩ := x
    unfold trV aV hV at *
    unfold trcs acs hcs at H0
    simp only at *
    generalize l.length = m at *
    have hflat : ∀ W, Tri w W ⟨tp, ts⟩ ⟨yh, yt, ya, yv, yn, yd⟩ (.slice p m cap) ⟨h, t, aa, v, n, d⟩ → (W.cell? ⟨w.heap.size, 0, none⟩ = some (.int .i64 tp) ∧ W.cell? ⟨w.heap.size, 1, none⟩ = some (.int .i64 ts)) ∧ (W.cell? ⟨w.heap.size + 1, 0, none⟩ = some (.int .i64 yh) ∧ W.cell? ⟨w.heap.size + 1, 1, none⟩ = some (.int .i64 yt) ∧ W.cell? ⟨w.heap.size + 1, 2, none⟩ = some (.string ya) ∧ W.cell? ⟨w.heap.size + 1, 3, none⟩ = some (.string yv) ∧ W.cell? ⟨w.heap.size + 1, 4, none⟩ = some (.string yn) ∧ W.cell? ⟨w.heap.size + 1, 5, none⟩ = some (.string yd) ∧ W.cell? ⟨w.heap.size + 1, 6, none⟩ = some (.slice p m cap)) ∧ (W.cell? ⟨w.heap.size + 2, 0, none⟩ = some (.int .i64 h) ∧ W.cell? ⟨w.heap.size + 2, 1, none⟩ = some (.int .i64 t) ∧ W.cell? ⟨w.heap.size + 2, 2, none⟩ = some (.string aa) ∧ W.cell? ⟨w.heap.size + 2, 3, none⟩ = some (.string v) ∧ W.cell? ⟨w.heap.size + 2, 4, none⟩ = some (.string n) ∧ W.cell? ⟨w.heap.size + 2, 5, none⟩ = some (.string d)) := fun W h => ⟨⟨h.1.cell 0 rfl, h.1.cell 1 rfl⟩, ⟨h.2.1.cell 0 rfl, h.2.1.cell 1 rfl, h.2.1.cell 2 rfl, h.2.1.cell 3 rfl, h.2.1.cell 4 rfl, h.2.1.cell 5 rfl, h.2.1.cell 6 rfl⟩, ⟨h.2.2.1.cell 0 rfl, h.2.2.1.cell 1 rfl, h.2.2.1.cell 2 rfl, h.2.2.1.cell 3 rfl, h.2.2.1.cell 4 rfl, h.2.2.1.cell 5 rfl⟩⟩
    obtain ⟨w0, hw0⟩ : ∃ W, ((w.alloc (Obj.cells #[Value.int .i64 tp, Value.int .i64 ts] 25)).alloc (Obj.cells #[Value.int .i64 yh, Value.int .i64 yt, Value.string ya, Value.string yv, Value.string yn, Value.string yd, Value.slice p m cap] 30)).alloc (Obj.cells #[Value.int .i64 h, Value.int .i64 t, Value.string aa, Value.string v, Value.string n, Value.string d] 27) = W := ⟨_, rfl⟩
    have HA0 : Hid (Tri w w0 ⟨tp, ts⟩ ⟨yh, yt, ya, yv, yn, yd⟩ (.slice p m cap) ⟨h, t, aa, v, n, d⟩) := by rw [← hw0]; exact H0.out
    clear H0
    obtain ⟨⟨at0, at1⟩, ⟨ay0, ay1, ay2, ay3, ay4, ay5, ay6⟩, ⟨ax0, ax1, ax2, ax3, ax4, ax5⟩⟩ := hflat _ HA0.out
    have HF2 : Hid (errV N = .iface 114 (.agg #[.int .i64 1])) := by show _ = _; rw [HF.out]; rfl
    rw [HF2.out]
    clear HF HF2
    go_enter Tryz.func38, Tryz.ntmps38
    go_wp2_with fail
    try rw [hw0]
    refine (kO _).mono ?_
    rintro e w1 ⟨rfl, bb⟩
    have HA1 : Hid (Tri w w1 ⟨tp, ts⟩ ⟨yh, yt, ya, yv, yn, yd⟩ (.slice p m cap) ⟨h, t, aa, v, n, d⟩) := HA0.out.step bb
    clear at0 at1 ay0 ay1 ay2 ay3 ay4 ay5 ay6 ax0 ax1 ax2 ax3 ax4 ax5 bb HA0 hw0
    obtain ⟨⟨at0, at1⟩, ⟨ay0, ay1, ay2, ay3, ay4, ay5, ay6⟩, ⟨ax0, ax1, ax2, ax3, ax4, ax5⟩⟩ := hflat _ HA1.out
    go_wp2
    go_ret
    exact ⟨rfl, HA1.out.2.2.2⟩
  · obtain rfl : R = false := HR false false true true rfl rfl rfl rfl
    have HF : Hid (N = 1) := by show _ = _; rw [HE.out]; rfl
    clear HE HN HQ HR h1 h2 h3 h4
    obtain ⟨tp, ts⟩ := t
    obtain ⟨yh, yt, ya, yv, yn, yd⟩ := y
    obtain ⟨h, t, aa, v, n, d⟩ := x
    unfold trV aV hV at *
    unfold trcs acs hcs at H0
    simp only at *
    generalize l.length = m at *
    have hflat : ∀ W, Tri w W ⟨tp, ts⟩ ⟨yh, yt, ya, yv, yn, yd⟩ (.slice p m cap) ⟨h, t, aa, v, n, d⟩ → (W.cell? ⟨w.heap.size, 0, none⟩ = some (.int .i64 tp) ∧ W.cell? ⟨w.heap.size, 1, none⟩ = some (.int .i64 ts)) ∧ (W.cell? ⟨w.heap.size + 1, 0, none⟩ = some (.int .i64 yh) ∧ W.cell? ⟨w.heap.size + 1, 1, none⟩ = some (.int .i64 yt) ∧ W.cell? ⟨w.heap.size + 1, 2, none⟩ = some (.string ya) ∧ W.cell? ⟨w.heap.size + 1, 3, none⟩ = some (.string yv) ∧ W.cell? ⟨w.heap.size + 1, 4, none⟩ = some (.string yn) ∧ W.cell? ⟨w.heap.size + 1, 5, none⟩ = some (.string yd) ∧ W.cell? ⟨w.heap.size + 1, 6, none⟩ = some (.slice p m cap)) ∧ (W.cell? ⟨w.heap.size + 2, 0, none⟩ = some (.int .i64 h) ∧ W.cell? ⟨w.heap.size + 2, 1, none⟩ = some (.int .i64 t) ∧ W.cell? ⟨w.heap.size + 2, 2, none⟩ = some (.string aa) ∧ W.cell? ⟨w.heap.size + 2, 3, none⟩ = some (.string v) ∧ W.cell? ⟨w.heap.size + 2, 4, none⟩ = some (.string n) ∧ W.cell? ⟨w.heap.size + 2, 5, none⟩ = some (.string d)) := fun W h => ⟨⟨h.1.cell 0 rfl, h.1.cell 1 rfl⟩, ⟨h.2.1.cell 0 rfl, h.2.1.cell 1 rfl, h.2.1.cell 2 rfl, h.2.1.cell 3 rfl, h.2.1.cell 4 rfl, h.2.1.cell 5 rfl, h.2.1.cell 6 rfl⟩, ⟨h.2.2.1.cell 0 rfl, h.2.2.1.cell 1 rfl, h.2.2.1.cell 2 rfl, h.2.2.1.cell 3 rfl, h.2.2.1.cell 4 rfl, h.2.2.1.cell 5 rfl⟩⟩
    obtain ⟨w0, hw0⟩ : ∃ W, ((w.alloc (Obj.cells #[Value.int .i64 tp, Value.int .i64 ts] 25)).alloc (Obj.cells #[Value.int .i64 yh, Value.int .i64 yt, Value.string ya, Value.string yv, Value.string yn, Value.string yd, Value.slice p m cap] 30)).alloc (Obj.cells #[Value.int .i64 h, Value.int .i64 t, Value.string aa, Value.string v, Value.string n, Value.string d] 27) = W := ⟨_, rfl⟩
    have HA0 : Hid (Tri w w0 ⟨tp, ts⟩ ⟨yh, yt, ya, yv, yn, yd⟩ (.slice p m cap) ⟨h, t, aa, v, n, d⟩) := by rw [← hw0]; exact H0.out
    clear H0
    obtain ⟨⟨at0, at1⟩, ⟨ay0, ay1, ay2, ay3, ay4, ay5, ay6⟩, ⟨ax0, ax1, ax2, ax3, ax4, ax5⟩⟩ := hflat _ HA0.out
    have HF2 : Hid (errV N = .iface 114 (.agg #[.int .i64 1])) := by show _ = _; rw [HF.out]; rfl
    rw [HF2.out]
    clear HF HF2
    go_enter Tryz.func38, Tryz.ntmps38
    go_wp2_with fail
    try rw [hw0]
    refine (kO _).mono ?_
    rintro e w1 ⟨rfl, bb⟩
    have HA1 : Hid (Tri w w1 ⟨tp, ts⟩ ⟨yh, yt, ya, yv, yn, yd⟩ (.slice p m cap) ⟨h, t, aa, v, n, d⟩) := HA0.out.step bb
    clear at0 at1 ay0 ay1 ay2 ay3 ay4 ay5 ay6 ax0 ax1 ax2 ax3 ax4 ax5 bb HA0 hw0
    obtain ⟨⟨at0, at1⟩, ⟨ay0, ay1, ay2, ay3, ay4, ay5, ay6⟩, ⟨ax0, ax1, ax2, ax3, ax4, ax5⟩⟩ := hflat _ HA1.out
    go_wp2
    go_ret
    exact ⟨rfl, HA1.out.2.2.2⟩
  · obtain rfl : R = false := HR false true false false rfl rfl rfl rfl
    have HF : Hid (N = 1) := by show _ = _; rw [HE.out]; rfl
    clear HE HN HQ HR h1 h2 h3 h4
    obtain ⟨tp, ts⟩ := t
    obtain ⟨yh, yt, ya, yv, yn, yd⟩ := y
    obtain ⟨h, t, aa, v, n, d⟩ := x
    unfold trV aV hV at *
    unfold trcs acs hcs at H0
    simp only at *
    generalize l.length = m at *
    have hflat : ∀ W, Tri w W ⟨tp, ts⟩ ⟨yh, yt, ya, yv, yn, yd⟩ (.slice p m cap) ⟨h, t, aa, v, n, d⟩ → (W.cell? ⟨w.heap.size, 0, none⟩ = some (.int .i64 tp) ∧ W.cell? ⟨w.heap.size, 1, none⟩ = some (.int .i64 ts)) ∧ (W.cell? ⟨w.heap.size + 1, 0, none⟩ = some (.int .i64 yh) ∧ W.cell? ⟨w.heap.size + 1, 1, none⟩ = some (.int .i64 yt) ∧ W.cell? ⟨w.heap.size + 1, 2, none⟩ = some (.string ya) ∧ W.cell? ⟨w.heap.size + 1, 3, none⟩ = some (.string yv) ∧ W.cell? ⟨w.heap.size + 1, 4, none⟩ = some (.string yn) ∧ W.cell? ⟨w.heap.size + 1, 5, none⟩ = some (.string yd) ∧ W.cell? ⟨w.heap.size + 1, 6, none⟩ = some (.slice p m cap)) ∧ (W.cell? ⟨w.heap.size + 2, 0, none⟩ = some (.int .i64 h) ∧ W.cell? ⟨w.heap.size + 2, 1, none⟩ = some (.int .i64 t) ∧ W.cell? ⟨w.heap.size + 2, 2, none⟩ = some (.string aa) ∧ W.cell? ⟨w.heap.size + 2, 3, none⟩ = some (.string v) ∧ W.cell? ⟨w.heap.size + 2, 4, none⟩ = some (.string n) ∧ W.cell? ⟨w.heap.size + 2, 5, none⟩ = some (.string d)) := fun W h => ⟨⟨h.1.cell 0 rfl, h.1.cell 1 rfl⟩, ⟨h.2.1.cell 0 rfl, h.2.1.cell 1 rfl, h.2.1.cell 2 rfl, h.2.1.cell 3 rfl, h.2.1.cell 4 rfl, h.2.1.cell 5 rfl, h.2.1.cell 6 rfl⟩, ⟨h.2.2.1.cell 0 rfl, h.2.2.1.cell 1 rfl, h.2.2.1.cell 2 rfl, h.2.2.1.cell 3 rfl, h.2.2.1.cell 4 rfl, h.2.2.1.cell 5 rfl⟩⟩
    obtain ⟨w0, hw0⟩ : ∃ W, ((w.alloc (Obj.cells #[Value.int .i64 tp, Value.int .i64 ts] 25)).alloc (Obj.cells #[Value.int .i64 yh, Value.int .i64 yt, Value.string ya, Value.string yv, Value.string yn, Value.string yd, Value.slice p m cap] 30)).alloc (Obj.cells #[Value.int .i64 h, Value.int .i64 t, Value.string aa, Value.string v, Value.string n, Value.string d] 27) = W := ⟨_, rfl⟩
    have HA0 : Hid (Tri w w0 ⟨tp, ts⟩ ⟨yh, yt, ya, yv, yn, yd⟩ (.slice p m cap) ⟨h, t, aa, v, n, d⟩) := by rw [← hw0]; exact H0.out
    clear H0
    obtain ⟨⟨at0, at1⟩, ⟨ay0, ay1, ay2, ay3, ay4, ay5, ay6⟩, ⟨ax0, ax1, ax2, ax3, ax4, ax5⟩⟩ := hflat _ HA0.out
    have HF2 : Hid (errV N = .iface 114 (.agg #[.int .i64 1])) := by show _ = _; rw [HF.out]; rfl
    rw [HF2.out]
    clear HF HF2
    go_enter Tryz.func38, Tryz.ntmps38
    go_wp2_with fail
    try rw [hw0]
    refine (kO _).mono ?_
    rintro e w1 ⟨rfl, bb⟩
    have HA1 : Hid (Tri w w1 ⟨tp, ts⟩ ⟨yh, yt, ya, yv, yn, yd⟩ (.slice p m cap) ⟨h, t, aa, v, n, d⟩) := HA0.out.step bb
    clear at0 at1 ay0 ay1 ay2 ay3 ay4 ay5 ay6 ax0 ax1 ax2 ax3 ax4 ax5 bb HA0 hw0
    obtain ⟨⟨at0, at1⟩, ⟨ay0, ay1, ay2, ay3, ay4, ay5, ay6⟩, ⟨ax0, ax1, ax2, ax3, ax4, ax5⟩⟩ := hflat _ HA1.out
    go_wp2
    go_ret
    exact ⟨rfl, HA1.out.2.2.2⟩
  · obtain rfl : R = false := HR false true false true rfl rfl rfl rfl
    have HF : Hid (N = 1) := by show _ = _; rw [HE.out]; rfl
    clear HE HN HQ HR h1 h2 h3 h4
    obtain ⟨tp, ts⟩ := t
    obtain ⟨yh, yt, ya, yv, yn, yd⟩ := y
    obtain ⟨h, t, aa, v, n, d⟩ := x
    unfold trV aV hV at *
    unfold trcs acs hcs at H0
    simp only at *
    generalize l.length = m at *
    have hflat : ∀ W, Tri w W ⟨tp, ts⟩ ⟨yh, yt, ya, yv, yn, yd⟩ (.slice p m cap) ⟨h, t, aa, v, n, d⟩ → (W.cell? ⟨w.heap.size, 0, none⟩ = some (.int .i64 tp) ∧ W.cell? ⟨w.heap.size, 1, none⟩ = some (.int .i64 ts)) ∧ (W.cell? ⟨w.heap.size + 1, 0, none⟩ = some (.int .i64 yh) ∧ W.cell? ⟨w.heap.size + 1, 1, none⟩ = some (.int .i64 yt) ∧ W.cell? ⟨w.heap.size + 1, 2, none⟩ = some (.string ya) ∧ W.cell? ⟨w.heap.size + 1, 3, none⟩ = some (.string yv) ∧ W.cell? ⟨w.heap.size + 1, 4, none⟩ = some (.string yn) ∧ W.cell? ⟨w.heap.size + 1, 5, none⟩ = some (.string yd) ∧ W.cell? ⟨w.heap.size + 1, 6, none⟩ = some (.slice p m cap)) ∧ (W.cell? ⟨w.heap.size + 2, 0, none⟩ = some (.int .i64 h) ∧ W.cell? ⟨w.heap.size + 2, 1, none⟩ = some (.int .i64 t) ∧ W.cell? ⟨w.heap.size + 2, 2, none⟩ = some (.string aa) ∧ W.cell? ⟨w.heap.size + 2, 3, none⟩ = some (.string v) ∧ W.cell? ⟨w.heap.size + 2, 4, none⟩ = some (.string n) ∧ W.cell? ⟨w.heap.size + 2, 5, none⟩ = some (.string d)) := fun W h => ⟨⟨h.1.cell 0 rfl, h.1.cell 1 rfl⟩, ⟨h.2.1.cell 0 rfl, h.2.1.cell 1 rfl, h.2.1.cell 2 rfl, h.2.1.cell 3 rfl, h.2.1.cell 4 rfl, h.2.1.cell 5 rfl, h.2.1.cell 6 rfl⟩, ⟨h.2.2.1.cell 0 rfl, h.2.2.1.cell 1 rfl, h.2.2.1.cell 2 rfl, h.2.2.1.cell 3 rfl, h.2.2.1.cell 4 rfl, h.2.2.1.cell 5 rfl⟩⟩
    obtain ⟨w0, hw0⟩ : ∃ W, ((w.alloc (Obj.cells #[Value.int .i64 tp, Value.int .i64 ts] 25)).alloc (Obj.cells #[Value.int .i64 yh, Value.int .i64 yt, Value.string ya, Value.string yv, Value.string yn, Value.string yd, Value.slice p m cap] 30)).alloc (Obj.cells #[Value.int .i64 h, Value.int .i64 t, Value.string aa, Value.string v, Value.string n, Value.string d] 27) = W := ⟨_, rfl⟩
    have HA0 : Hid (Tri w w0 ⟨tp, ts⟩ ⟨yh, yt, ya, yv, yn, yd⟩ (.slice p m cap) ⟨h, t, aa, v, n, d⟩) := by rw [← hw0]; exact H0.out
    clear H0
    obtain ⟨⟨at0, at1⟩, ⟨ay0, ay1, ay2, ay3, ay4, ay5, ay6⟩, ⟨ax0, ax1, ax2, ax3, ax4, ax5⟩⟩ := hflat _ HA0.out
    have HF2 : Hid (errV N = .iface 114 (.agg #[.int .i64 1])) := by show _ = _; rw [HF.out]; rfl
    rw [HF2.out]
    clear HF HF2
    go_enter Tryz.func38, Tryz.ntmps38
    go_wp2_with fail
    try rw [hw0]
    refine (kO _).mono ?_
    rintro e w1 ⟨rfl, bb⟩
    have HA1 : Hid (Tri w w1 ⟨tp, ts⟩ ⟨yh, yt, ya, yv, yn, yd⟩ (.slice p m cap) ⟨h, t, aa, v, n, d⟩) := HA0.out.step bb
    clear at0 at1 ay0 ay1 ay2 ay3 ay4 ay5 ay6 ax0 ax1 ax2 ax3 ax4 ax5 bb HA0 hw0
    obtain ⟨⟨at0, at1⟩, ⟨ay0, ay1, ay2, ay3, ay4, ay5, ay6⟩, ⟨ax0, ax1, ax2, ax3, ax4, ax5⟩⟩ := hflat _ HA1.out
    go_wp2
    go_ret
    exact ⟨rfl, HA1.out.2.2.2⟩
  · obtain rfl : R = false := HR false true true false rfl rfl rfl rfl
    have HF : Hid (N = 1) := by show _ = _; rw [HE.out]; rfl
    clear HE HN HQ HR h1 h2 h3 h4
    obtain ⟨tp, ts⟩ := t
    obtain ⟨yh, yt, ya, yv, yn, yd⟩ := y
    obtain ⟨h, t, aa, v, n, d⟩ := x
    unfold trV aV hV at *
    unfold trcs acs hcs at H0
    simp only at *
    generalize l.length = m at *
    have hflat : ∀ W, Tri w W ⟨tp, ts⟩ ⟨yh, yt, ya, yv, yn, yd⟩ (.slice p m cap) ⟨h, t, aa, v, n, d⟩ → (W.cell? ⟨w.heap.size, 0, none⟩ = some (.int .i64 tp) ∧ W.cell? ⟨w.heap.size, 1, none⟩ = some (.int .i64 ts)) ∧ (W.cell? ⟨w.heap.size + 1, 0, none⟩ = some (.int .i64 yh) ∧ W.cell? ⟨w.heap.size + 1, 1, none⟩ = some (.int .i64 yt) ∧ W.cell? ⟨w.heap.size + 1, 2, none⟩ = some (.string ya) ∧ W.cell? ⟨w.heap.size + 1, 3, none⟩ = some (.string yv) ∧ W.cell? ⟨w.heap.size + 1, 4, none⟩ = some (.string yn) ∧ W.cell? ⟨w.heap.size + 1, 5, none⟩ = some (.string yd) ∧ W.cell? ⟨w.heap.size + 1, 6, none⟩ = some (.slice p m cap)) ∧ (W.cell? ⟨w.heap.size + 2, 0, none⟩ = some (.int .i64 h) ∧ W.cell? ⟨w.heap.size + 2, 1, none⟩ = some (.int .i64 t) ∧ W.cell? ⟨w.heap.size + 2, 2, none⟩ = some (.string aa) ∧ W.cell? ⟨w.heap.size + 2, 3, none⟩ = some (.string v) ∧ W.cell? ⟨w.heap.size + 2, 4, none⟩ = some (.string n) ∧ W.cell? ⟨w.heap.size + 2, 5, none⟩ = some (.string d)) := fun W h => ⟨⟨h.1.cell 0 rfl, h.1.cell 1 rfl⟩, ⟨h.2.1.cell 0 rfl, h.2.1.cell 1 rfl, h.2.1.cell 2 rfl, h.2.1.cell 3 rfl, h.2.1.cell 4 rfl, h.2.1.cell 5 rfl, h.2.1.cell 6 rfl⟩, ⟨h.2.2.1.cell 0 rfl, h.2.2.1.cell 1 rfl, h.2.2.1.cell 2 rfl, h.2.2.1.cell 3 rfl, h.2.2.1.cell 4 rfl, h.2.2.1.cell 5 rfl⟩⟩
    obtain ⟨w0, hw0⟩ : ∃ W, ((w.alloc (Obj.cells #[Value.int .i64 tp, Value.int .i64 ts] 25)).alloc (Obj.cells #[Value.int .i64 yh, Value.int .i64 yt, Value.string ya, Value.string yv, Value.string yn, Value.string yd, Value.slice p m cap] 30)).alloc (Obj.cells #[Value.int .i64 h, Value.int .i64 t, Value.string aa, Value.string v, Value.string n, Value.string d] 27) = W := ⟨_, rfl⟩
    have HA0 : Hid (Tri w w0 ⟨tp, ts⟩ ⟨yh, yt, ya, yv, yn, yd⟩ (.slice p m cap) ⟨h, t, aa, v, n, d⟩) := by rw [← hw0]; exact H0.out
    clear H0
    obtain ⟨⟨at0, at1⟩, ⟨ay0, ay1, ay2, ay3, ay4, ay5, ay6⟩, ⟨ax0, ax1, ax2, ax3, ax4, ax5⟩⟩ := hflat _ HA0.out
    have HF2 : Hid (errV N = .iface 114 (.agg #[.int .i64 1])) := by show _ = _; rw [HF.out]; rfl
    rw [HF2.out]
    clear HF HF2
    go_enter Tryz.func38, Tryz.ntmps38
    go_wp2_with fail
    try rw [hw0]
    refine (kO _).mono ?_
    rintro e w1 ⟨rfl, bb⟩
    have HA1 : Hid (Tri w w1 ⟨tp, ts⟩ ⟨yh, yt, ya, yv, yn, yd⟩ (.slice p m cap) ⟨h, t, aa, v, n, d⟩) := HA0.out.step bb
    clear at0 at1 ay0 ay1 ay2 ay3 ay4 ay5 ay6 ax0 ax1 ax2 ax3 ax4 ax5 bb HA0 hw0
    obtain ⟨⟨at0, at1⟩, ⟨ay0, ay1, ay2, ay3, ay4, ay5, ay6⟩, ⟨ax0, ax1, ax2, ax3, ax4, ax5⟩⟩ := hflat _ HA1.out
    go_wp2
    go_ret
    exact ⟨rfl, HA1.out.2.2.2⟩
  · obtain rfl : R = false := HR false true true true rfl rfl rfl rfl
    have HF : Hid (N = 1) := by show _ = _; rw [HE.out]; rfl
    clear HE HN HQ HR h1 h2 h3 h4
    obtain ⟨tp, ts⟩ := t
    obtain ⟨yh, yt, ya, yv, yn, yd⟩ := y
    obtain ⟨h, t, aa, v, n, d⟩ := x
    unfold trV aV hV at *
    unfold trcs acs hcs at H0
    simp only at *
    generalize l.length = m at *
    have hflat : ∀ W, Tri w W ⟨tp, ts⟩ ⟨yh, yt, ya, yv, yn, yd⟩ (.slice p m cap) ⟨h, t, aa, v, n, d⟩ → (W.cell? ⟨w.heap.size, 0, none⟩ = some (.int .i64 tp) ∧ W.cell? ⟨w.heap.size, 1, none⟩ = some (.int .i64 ts)) ∧ (W.cell? ⟨w.heap.size + 1, 0, none⟩ = some (.int .i64 yh) ∧ W.cell? ⟨w.heap.size + 1, 1, none⟩ = some (.int .i64 yt) ∧ W.cell? ⟨w.heap.size + 1, 2, none⟩ = some (.string ya) ∧ W.cell? ⟨w.heap.size + 1, 3, none⟩ = some (.string yv) ∧ W.cell? ⟨w.heap.size + 1, 4, none⟩ = some (.string yn) ∧ W.cell? ⟨w.heap.size + 1, 5, none⟩ = some (.string yd) ∧ W.cell? ⟨w.heap.size + 1, 6, none⟩ = some (.slice p m cap)) ∧ (W.cell? ⟨w.heap.size + 2, 0, none⟩ = some (.int .i64 h) ∧ W.cell? ⟨w.heap.size + 2, 1, none⟩ = some (.int .i64 t) ∧ W.cell? ⟨w.heap.size + 2, 2, none⟩ = some (.string aa) ∧ W.cell? ⟨w.heap.size + 2, 3, none⟩ = some (.string v) ∧ W.cell? ⟨w.heap.size + 2, 4, none⟩ = some (.string n) ∧ W.cell? ⟨w.heap.size + 2, 5, none⟩ = some (.string d)) := fun W h => ⟨⟨h.1.cell 0 rfl, h.1.cell 1 rfl⟩, ⟨h.2.1.cell 0 rfl, h.2.1.cell 1 rfl, h.2.1.cell 2 rfl, h.2.1.cell 3 rfl, h.2.1.cell 4 rfl, h.2.1.cell 5 rfl, h.2.1.cell 6 rfl⟩, ⟨h.2.2.1.cell 0 rfl, h.2.2.1.cell 1 rfl, h.2.2.1.cell 2 rfl, h.2.2.1.cell 3 rfl, h.2.2.1.cell 4 rfl, h.2.2.1.cell 5 rfl⟩⟩
    obtain ⟨w0, hw0⟩ : ∃ W, ((w.alloc (Obj.cells #[Value.int .i64 tp, Value.int .i64 ts] 25)).alloc (Obj.cells #[Value.int .i64 yh, Value.int .i64 yt, Value.string ya, Value.string yv, Value.string yn, Value.string yd, Value.slice p m cap] 30)).alloc (Obj.cells #[Value.int .i64 h, Value.int .i64 t, Value.string aa, Value.string v, Value.string n, Value.string d] 27) = W := ⟨_, rfl⟩
    have HA0 : Hid (Tri w w0 ⟨tp, ts⟩ ⟨yh, yt, ya, yv, yn, yd⟩ (.slice p m cap) ⟨h, t, aa, v, n, d⟩) := by rw [← hw0]; exact H0.out
    clear H0
    obtain ⟨⟨at0, at1⟩, ⟨ay0, ay1, ay2, ay3, ay4, ay5, ay6⟩, ⟨ax0, ax1, ax2, ax3, ax4, ax5⟩⟩ := hflat _ HA0.out
    have HF2 : Hid (errV N = .iface 114 (.agg #[.int .i64 1])) := by show _ = _; rw [HF.out]; rfl
    rw [HF2.out]
    clear HF HF2
    go_enter Tryz.func38, Tryz.ntmps38
    go_wp2_with fail
    try rw [hw0]
    refine (kO _).mono ?_
    rintro e w1 ⟨rfl, bb⟩
    have HA1 : Hid (Tri w w1 ⟨tp, ts⟩ ⟨yh, yt, ya, yv, yn, yd⟩ (.slice p m cap) ⟨h, t, aa, v, n, d⟩) := HA0.out.step bb
    clear at0 at1 ay0 ay1 ay2 ay3 ay4 ay5 ay6 ax0 ax1 ax2 ax3 ax4 ax5 bb HA0 hw0
    obtain ⟨⟨at0, at1⟩, ⟨ay0, ay1, ay2, ay3, ay4, ay5, ay6⟩, ⟨ax0, ax1, ax2, ax3, ax4, ax5⟩⟩ := hflat _ HA1.out
    go_wp2
    go_ret
    exact ⟨rfl, HA1.out.2.2.2⟩
  · obtain rfl : R = false := HR true false false false rfl rfl rfl rfl
    have HF : Hid (N = 1) := by show _ = _; rw [HE.out]; rfl
    clear HE HN HQ HR h1 h2 h3 h4
    obtain ⟨tp, ts⟩ := t
    obtain ⟨yh, yt, ya, yv, yn, yd⟩ := y
    obtain ⟨h, t, aa, v, n, d⟩ := x
    unfold trV aV hV at *
    unfold trcs acs hcs at H0
    simp only at *
    generalize l.length = m at *
    have hflat : ∀ W, Tri w W ⟨tp, ts⟩ ⟨yh, yt, ya, yv, yn, yd⟩ (.slice p m cap) ⟨h, t, aa, v, n, d⟩ → (W.cell? ⟨w.heap.size, 0, none⟩ = some (.int .i64 tp) ∧ W.cell? ⟨w.heap.size, 1, none⟩ = some (.int .i64 ts)) ∧ (W.cell? ⟨w.heap.size + 1, 0, none⟩ = some (.int .i64 yh) ∧ W.cell? ⟨w.heap.size + 1, 1, none⟩ = some (.int .i64 yt) ∧ W.cell? ⟨w.heap.size + 1, 2, none⟩ = some (.string ya) ∧ W.cell? ⟨w.heap.size + 1, 3, none⟩ = some (.string yv) ∧ W.cell? ⟨w.heap.size + 1, 4, none⟩ = some (.string yn) ∧ W.cell? ⟨w.heap.size + 1, 5, none⟩ = some (.string yd) ∧ W.cell? ⟨w.heap.size + 1, 6, none⟩ = some (.slice p m cap)) ∧ (W.cell? ⟨w.heap.size + 2, 0, none⟩ = some (.int .i64 h) ∧ W.cell? ⟨w.heap.size + 2, 1, none⟩ = some (.int .i64 t) ∧ W.cell? ⟨w.heap.size + 2, 2, none⟩ = some (.string aa) ∧ W.cell? ⟨w.heap.size + 2, 3, none⟩ = some (.string v) ∧ W.cell? ⟨w.heap.size + 2, 4, none⟩ = some (.string n) ∧ W.cell? ⟨w.heap.size + 2, 5, none⟩ = some (.string d)) := fun W h => ⟨⟨h.1.cell 0 rfl, h.1.cell 1 rfl⟩, ⟨h.2.1.cell 0 rfl, h.2.1.cell 1 rfl, h.2.1.cell 2 rfl, h.2.1.cell 3 rfl, h.2.1.cell 4 rfl, h.2.1.cell 5 rfl, h.2.1.cell 6 rfl⟩, ⟨h.2.2.1.cell 0 rfl, h.2.2.1.cell 1 rfl, h.2.2.1.cell 2 rfl, h.2.2.1.cell 3 rfl, h.2.2.1.cell 4 rfl, h.2.2.1.cell 5 rfl⟩⟩
    obtain ⟨w0, hw0⟩ : ∃ W, ((w.alloc (Obj.cells #[Value.int .i64 tp, Value.int .i64 ts] 25)).alloc (Obj.cells #[Value.int .i64 yh, Value.int .i64 yt, Value.string ya, Value.string yv, Value.string yn, Value.string yd, Value.slice p m cap] 30)).alloc (Obj.cells #[Value.int .i64 h, Value.int .i64 t, Value.string aa, Value.string v, Value.string n, Value.string d] 27) = W := ⟨_, rfl⟩
    have HA0 : Hid (Tri w w0 ⟨tp, ts⟩ ⟨yh, yt, ya, yv, yn, yd⟩ (.slice p m cap) ⟨h, t, aa, v, n, d⟩) := by rw [← hw0]; exact H0.out
    clear H0
    obtain ⟨⟨at0, at1⟩, ⟨ay0, ay1, ay2, ay3, ay4, ay5, ay6⟩, ⟨ax0, ax1, ax2, ax3, ax4, ax5⟩⟩ := hflat _ HA0.out
    have HF2 : Hid (errV N = .iface 114 (.agg #[.int .i64 1])) := by show _ = _; rw [HF.out]; rfl
    rw [HF2.out]
    clear HF HF2
    go_enter Tryz.func38, Tryz.ntmps38
    go_wp2_with fail
    try rw [hw0]
    refine (kO _).mono ?_
    rintro e w1 ⟨rfl, bb⟩
    have HA1 : Hid (Tri w w1 ⟨tp, ts⟩ ⟨yh, yt, ya, yv, yn, yd⟩ (.slice p m cap) ⟨h, t, aa, v, n, d⟩) := HA0.out.step bb
    clear at0 at1 ay0 ay1 ay2 ay3 ay4 ay5 ay6 ax0 ax1 ax2 ax3 ax4 ax5 bb HA0 hw0
    obtain ⟨⟨at0, at1⟩, ⟨ay0, ay1, ay2, ay3, ay4, ay5, ay6⟩, ⟨ax0, ax1, ax2, ax3, ax4, ax5⟩⟩ := hflat _ HA1.out
    go_wp2_with fail
    refine (kA _ (HL.out.below HA1.out.2.2.2) (HT.out.below HA1.out.2.2.2 HT.out.pos)).mono ?_
    rintro e w2 ⟨rfl, bb⟩
    have HA2 : Hid (Tri w w2 ⟨tp, ts⟩ ⟨yh, yt, ya, yv, yn, yd⟩ (.slice p m cap) ⟨h, t, aa, v, n, d⟩) := HA1.out.step bb
    clear at0 at1 ay0 ay1 ay2 ay3 ay4 ay5 ay6 ax0 ax1 ax2 ax3 ax4 ax5 bb HA1
    obtain ⟨⟨at0, at1⟩, ⟨ay0, ay1, ay2, ay3, ay4, ay5, ay6⟩, ⟨ax0, ax1, ax2, ax3, ax4, ax5⟩⟩ := hflat _ HA2.out
    go_wp2
    go_ret
    exact ⟨rfl, HA2.out.2.2.2⟩
  · obtain rfl : R = false := HR true false false true rfl rfl rfl rfl
    have HF : Hid (N = 1) := by show _ = _; rw [HE.out]; rfl
    clear HE HN HQ HR h1 h2 h3 h4
    obtain ⟨tp, ts⟩ := t
    obtain ⟨yh, yt, ya, yv, yn, yd⟩ := y
    obtain ⟨h, t, aa, v, n, d⟩ := x
    unfold trV aV hV at *
    unfold trcs acs hcs at H0
    simp only at *
    generalize l.length = m at *
    have hflat : ∀ W, Tri w W ⟨tp, ts⟩ ⟨yh, yt, ya, yv, yn, yd⟩ (.slice p m cap) ⟨h, t, aa, v, n, d⟩ → (W.cell? ⟨w.heap.size, 0, none⟩ = some (.int .i64 tp) ∧ W.cell? ⟨w.heap.size, 1, none⟩ = some (.int .i64 ts)) ∧ (W.cell? ⟨w.heap.size + 1, 0, none⟩ = some (.int .i64 yh) ∧ W.cell? ⟨w.heap.size + 1, 1, none⟩ = some (.int .i64 yt) ∧ W.cell? ⟨w.heap.size + 1, 2, none⟩ = some (.string ya) ∧ W.cell? ⟨w.heap.size + 1, 3, none⟩ = some (.string yv) ∧ W.cell? ⟨w.heap.size + 1, 4, none⟩ = some (.string yn) ∧ W.cell? ⟨w.heap.size + 1, 5, none⟩ = some (.string yd) ∧ W.cell? ⟨w.heap.size + 1, 6, none⟩ = some (.slice p m cap)) ∧ (W.cell? ⟨w.heap.size + 2, 0, none⟩ = some (.int .i64 h) ∧ W.cell? ⟨w.heap.size + 2, 1, none⟩ = some (.int .i64 t) ∧ W.cell? ⟨w.heap.size + 2, 2, none⟩ = some (.string aa) ∧ W.cell? ⟨w.heap.size + 2, 3, none⟩ = some (.string v) ∧ W.cell? ⟨w.heap.size + 2, 4, none⟩ = some (.string n) ∧ W.cell? ⟨w.heap.size + 2, 5, none⟩ = some (.string d)) := fun W h => ⟨⟨h.1.cell 0 rfl, h.1.cell 1 rfl⟩, ⟨h.2.1.cell 0 rfl, h.2.1.cell 1 rfl, h.2.1.cell 2 rfl, h.2.1.cell 3 rfl, h.2.1.cell 4 rfl, h.2.1.cell 5 rfl, h.2.1.cell 6 rfl⟩, ⟨h.2.2.1.cell 0 rfl, h.2.2.1.cell 1 rfl, h.2.2.1.cell 2 rfl, h.2.2.1.cell 3 rfl, h.2.2.1.cell 4 rfl, h.2.2.1.cell 5 rfl⟩⟩
    obtain ⟨w0, hw0⟩ : ∃ W, ((w.alloc (Obj.cells #[Value.int .i64 tp, Value.int .i64 ts] 25)).alloc (Obj.cells #[Value.int .i64 yh, Value.int .i64 yt, Value.string ya, Value.string yv, Value.string yn, Value.string yd, Value.slice p m cap] 30)).alloc (Obj.cells #[Value.int .i64 h, Value.int .i64 t, Value.string aa, Value.string v, Value.string n, Value.string d] 27) = W := ⟨_, rfl⟩
    have HA0 : Hid (Tri w w0 ⟨tp, ts⟩ ⟨yh, yt, ya, yv, yn, yd⟩ (.slice p m cap) ⟨h, t, aa, v, n, d⟩) := by rw [← hw0]; exact H0.out
    clear H0
    obtain ⟨⟨at0, at1⟩, ⟨ay0, ay1, ay2, ay3, ay4, ay5, ay6⟩, ⟨ax0, ax1, ax2, ax3, ax4, ax5⟩⟩ := hflat _ HA0.out
    have HF2 : Hid (errV N = .iface 114 (.agg #[.int .i64 1])) := by show _ = _; rw [HF.out]; rfl
    rw [HF2.out]
    clear HF HF2
    go_enter Tryz.func38, Tryz.ntmps38
    go_wp2_with fail
    try rw [hw0]
    refine (kO _).mono ?_
    rintro e w1 ⟨rfl, bb⟩
    have HA1 : Hid (Tri w w1 ⟨tp, ts⟩ ⟨yh, yt, ya, yv, yn, yd⟩ (.slice p m cap) ⟨h, t, aa, v, n, d⟩) := HA0.out.step bb
    clear at0 at1 ay0 ay1 ay2 ay3 ay4 ay5 ay6 ax0 ax1 ax2 ax3 ax4 ax5 bb HA0 hw0
    obtain ⟨⟨at0, at1⟩, ⟨ay0, ay1, ay2, ay3, ay4, ay5, ay6⟩, ⟨ax0, ax1, ax2, ax3, ax4, ax5⟩⟩ := hflat _ HA1.out
    go_wp2_with fail
    refine (kA _ (HL.out.below HA1.out.2.2.2) (HT.out.below HA1.out.2.2.2 HT.out.pos)).mono ?_
    rintro e w2 ⟨rfl, bb⟩
    have HA2 : Hid (Tri w w2 ⟨tp, ts⟩ ⟨yh, yt, ya, yv, yn, yd⟩ (.slice p m cap) ⟨h, t, aa, v, n, d⟩) := HA1.out.step bb
    clear at0 at1 ay0 ay1 ay2 ay3 ay4 ay5 ay6 ax0 ax1 ax2 ax3 ax4 ax5 bb HA1
    obtain ⟨⟨at0, at1⟩, ⟨ay0, ay1, ay2, ay3, ay4, ay5, ay6⟩, ⟨ax0, ax1, ax2, ax3, ax4, ax5⟩⟩ := hflat _ HA2.out
    go_wp2
    go_ret
    exact ⟨rfl, HA2.out.2.2.2⟩
  · obtain rfl : R = false := HR true false true false rfl rfl rfl rfl
    have HF : Hid (N = 1) := by show _ = _; rw [HE.out]; rfl
    clear HE HN HQ HR h1 h2 h3 h4
    obtain ⟨tp, ts⟩ := t
    obtain ⟨yh, yt, ya, yv, yn, yd⟩ := y
    obtain ⟨h, t, aa, v, n, d⟩ := x
    unfold trV aV hV at *
    unfold trcs acs hcs at H0
    simp only at *
    generalize l.length = m at *
    have hflat : ∀ W, Tri w W ⟨tp, ts⟩ ⟨yh, yt, ya, yv, yn, yd⟩ (.slice p m cap) ⟨h, t, aa, v, n, d⟩ → (W.cell? ⟨w.heap.size, 0, none⟩ = some (.int .i64 tp) ∧ W.cell? ⟨w.heap.size, 1, none⟩ = some (.int .i64 ts)) ∧ (W.cell? ⟨w.heap.size + 1, 0, none⟩ = some (.int .i64 yh) ∧ W.cell? ⟨w.heap.size + 1, 1, none⟩ = some (.int .i64 yt) ∧ W.cell? ⟨w.heap.size + 1, 2, none⟩ = some (.string ya) ∧ W.cell? ⟨w.heap.size + 1, 3, none⟩ = some (.string yv) ∧ W.cell? ⟨w.heap.size + 1, 4, none⟩ = some (.string yn) ∧ W.cell? ⟨w.heap.size + 1, 5, none⟩ = some (.string yd) ∧ W.cell? ⟨w.heap.size + 1, 6, none⟩ = some (.slice p m cap)) ∧ (W.cell? ⟨w.heap.size + 2, 0, none⟩ = some (.int .i64 h) ∧ W.cell? ⟨w.heap.size + 2, 1, none⟩ = some (.int .i64 t) ∧ W.cell? ⟨w.heap.size + 2, 2, none⟩ = some (.string aa) ∧ W.cell? ⟨w.heap.size + 2, 3, none⟩ = some (.string v) ∧ W.cell? ⟨w.heap.size + 2, 4, none⟩ = some (.string n) ∧ W.cell? ⟨w.heap.size + 2, 5, none⟩ = some (.string d)) := fun W h => ⟨⟨h.1.cell 0 rfl, h.1.cell 1 rfl⟩, ⟨h.2.1.cell 0 rfl, h.2.1.cell 1 rfl, h.2.1.cell 2 rfl, h.2.1.cell 3 rfl, h.2.1.cell 4 rfl, h.2.1.cell 5 rfl, h.2.1.cell 6 rfl⟩, ⟨h.2.2.1.cell 0 rfl, h.2.2.1.cell 1 rfl, h.2.2.1.cell 2 rfl, h.2.2.1.cell 3 rfl, h.2.2.1.cell 4 rfl, h.2.2.1.cell 5 rfl⟩⟩
    obtain ⟨w0, hw0⟩ : ∃ W, ((w.alloc (Obj.cells #[Value.int .i64 tp, Value.int .i64 ts] 25)).alloc (Obj.cells #[Value.int .i64 yh, Value.int .i64 yt, Value.string ya, Value.string yv, Value.string yn, Value.string yd, Value.slice p m cap] 30)).alloc (Obj.cells #[Value.int .i64 h, Value.int .i64 t, Value.string aa, Value.string v, Value.string n, Value.string d] 27) = W := ⟨_, rfl⟩
    have HA0 : Hid (Tri w w0 ⟨tp, ts⟩ ⟨yh, yt, ya, yv, yn, yd⟩ (.slice p m cap) ⟨h, t, aa, v, n, d⟩) := by rw [← hw0]; exact H0.out
    clear H0
    obtain ⟨⟨at0, at1⟩, ⟨ay0, ay1, ay2, ay3, ay4, ay5, ay6⟩, ⟨ax0, ax1, ax2, ax3, ax4, ax5⟩⟩ := hflat _ HA0.out
    have HF2 : Hid (errV N = .iface 114 (.agg #[.int .i64 1])) := by show _ = _; rw [HF.out]; rfl
    rw [HF2.out]
    clear HF HF2
    go_enter Tryz.func38, Tryz.ntmps38
    go_wp2_with fail
    try rw [hw0]
    refine (kO _).mono ?_
    rintro e w1 ⟨rfl, bb⟩
    have HA1 : Hid (Tri w w1 ⟨tp, ts⟩ ⟨yh, yt, ya, yv, yn, yd⟩ (.slice p m cap) ⟨h, t, aa, v, n, d⟩) := HA0.out.step bb
    clear at0 at1 ay0 ay1 ay2 ay3 ay4 ay5 ay6 ax0 ax1 ax2 ax3 ax4 ax5 bb HA0 hw0
    obtain ⟨⟨at0, at1⟩, ⟨ay0, ay1, ay2, ay3, ay4, ay5, ay6⟩, ⟨ax0, ax1, ax2, ax3, ax4, ax5⟩⟩ := hflat _ HA1.out
    go_wp2_with fail
    refine (kA _ (HL.out.below HA1.out.2.2.2) (HT.out.below HA1.out.2.2.2 HT.out.pos)).mono ?_
    rintro e w2 ⟨rfl, bb⟩
    have HA2 : Hid (Tri w w2 ⟨tp, ts⟩ ⟨yh, yt, ya, yv, yn, yd⟩ (.slice p m cap) ⟨h, t, aa, v, n, d⟩) := HA1.out.step bb
    clear at0 at1 ay0 ay1 ay2 ay3 ay4 ay5 ay6 ax0 ax1 ax2 ax3 ax4 ax5 bb HA1
    obtain ⟨⟨at0, at1⟩, ⟨ay0, ay1, ay2, ay3, ay4, ay5, ay6⟩, ⟨ax0, ax1, ax2, ax3, ax4, ax5⟩⟩ := hflat _ HA2.out
    go_wp2
    go_ret
    exact ⟨rfl, HA2.out.2.2.2⟩
  · obtain rfl : R = false := HR true false true true rfl rfl rfl rfl
    have HF : Hid (N = 1) := by show _ = _; rw [HE.out]; rfl
    clear HE HN HQ HR h1 h2 h3 h4
    obtain ⟨tp, ts⟩ := t
    obtain ⟨yh, yt, ya, yv, yn, yd⟩ := y
    obtain ⟨h, t, aa, v, n, d⟩ := x
    unfold trV aV hV at *
    unfold trcs acs hcs at H0
    simp only at *
    generalize l.length = m at *
    have hflat : ∀ W, Tri w W ⟨tp, ts⟩ ⟨yh, yt, ya, yv, yn, yd⟩ (.slice p m cap) ⟨h, t, aa, v, n, d⟩ → (W.cell? ⟨w.heap.size, 0, none⟩ = some (.int .i64 tp) ∧ W.cell? ⟨w.heap.size, 1, none⟩ = some (.int .i64 ts)) ∧ (W.cell? ⟨w.heap.size + 1, 0, none⟩ = some (.int .i64 yh) ∧ W.cell? ⟨w.heap.size + 1, 1, none⟩ = some (.int .i64 yt) ∧ W.cell? ⟨w.heap.size + 1, 2, none⟩ = some (.string ya) ∧ W.cell? ⟨w.heap.size + 1, 3, none⟩ = some (.string yv) ∧ W.cell? ⟨w.heap.size + 1, 4, none⟩ = some (.string yn) ∧ W.cell? ⟨w.heap.size + 1, 5, none⟩ = some (.string yd) ∧ W.cell? ⟨w.heap.size + 1, 6, none⟩ = some (.slice p m cap)) ∧ (W.cell? ⟨w.heap.size + 2, 0, none⟩ = some (.int .i64 h) ∧ W.cell? ⟨w.heap.size + 2, 1, none⟩ = some (.int .i64 t) ∧ W.cell? ⟨w.heap.size + 2, 2, none⟩ = some (.string aa) ∧ W.cell? ⟨w.heap.size + 2, 3, none⟩ = some (.string v) ∧ W.cell? ⟨w.heap.size + 2, 4, none⟩ = some (.string n) ∧ W.cell? ⟨w.heap.size + 2, 5, none⟩ = some (.string d)) := fun W h => ⟨⟨h.1.cell 0 rfl, h.1.cell 1 rfl⟩, ⟨h.2.1.cell 0 rfl, h.2.1.cell 1 rfl, h.2.1.cell 2 rfl, h.2.1.cell 3 rfl, h.2.1.cell 4 rfl, h.2.1.cell 5 rfl, h.2.1.cell 6 rfl⟩, ⟨h.2.2.1.cell 0 rfl, h.2.2.1.cell 1 rfl, h.2.2.1.cell 2 rfl, h.2.2.1.cell 3 rfl, h.2.2.1.cell 4 rfl, h.2.2.1.cell 5 rfl⟩⟩
    obtain ⟨w0, hw0⟩ : ∃ W, ((w.alloc (Obj.cells #[Value.int .i64 tp, Value.int .i64 ts] 25)).alloc (Obj.cells #[Value.int .i64 yh, Value.int .i64 yt, Value.string ya, Value.string yv, Value.string yn, Value.string yd, Value.slice p m cap] 30)).alloc (Obj.cells #[Value.int .i64 h, Value.int .i64 t, Value.string aa, Value.string v, Value.string n, Value.string d] 27) = W := ⟨_, rfl⟩
    have HA0 : Hid (Tri w w0 ⟨tp, ts⟩ ⟨yh, yt, ya, yv, yn, yd⟩ (.slice p m cap) ⟨h, t, aa, v, n, d⟩) := by rw [← hw0]; exact H0.out
    clear H0
    obtain ⟨⟨at0, at1⟩, ⟨ay0, ay1, ay2, ay3, ay4, ay5, ay6⟩, ⟨ax0, ax1, ax2, ax3, ax4, ax5⟩⟩ := hflat _ HA0.out
    have HF2 : Hid (errV N = .iface 114 (.agg #[.int .i64 1])) := by show _ = _; rw [HF.out]; rfl
    rw [HF2.out]
    clear HF HF2
    go_enter Tryz.func38, Tryz.ntmps38
    go_wp2_with fail
    try rw [hw0]
    refine (kO _).mono ?_
    rintro e w1 ⟨rfl, bb⟩
    have HA1 : Hid (Tri w w1 ⟨tp, ts⟩ ⟨yh, yt, ya, yv, yn, yd⟩ (.slice p m cap) ⟨h, t, aa, v, n, d⟩) := HA0.out.step bb
    clear at0 at1 ay0 ay1 ay2 ay3 ay4 ay5 ay6 ax0 ax1 ax2 ax3 ax4 ax5 bb HA0 hw0
    obtain ⟨⟨at0, at1⟩, ⟨ay0, ay1, ay2, ay3, ay4, ay5, ay6⟩, ⟨ax0, ax1, ax2, ax3, ax4, ax5⟩⟩ := hflat _ HA1.out
    go_wp2_with fail
    refine (kA _ (HL.out.below HA1.out.2.2.2) (HT.out.below HA1.out.2.2.2 HT.out.pos)).mono ?_
    rintro e w2 ⟨rfl, bb⟩
    have HA2 : Hid (Tri w w2 ⟨tp, ts⟩ ⟨yh, yt, ya, yv, yn, yd⟩ (.slice p m cap) ⟨h, t, aa, v, n, d⟩) := HA1.out.step bb
    clear at0 at1 ay0 ay1 ay2 ay3 ay4 ay5 ay6 ax0 ax1 ax2 ax3 ax4 ax5 bb HA1
    obtain ⟨⟨at0, at1⟩, ⟨ay0, ay1, ay2, ay3, ay4, ay5, ay6⟩, ⟨ax0, ax1, ax2, ax3, ax4, ax5⟩⟩ := hflat _ HA2.out
    go_wp2
    go_ret
    exact ⟨rfl, HA2.out.2.2.2⟩
  · obtain rfl : R = false := HR true true false false rfl rfl rfl rfl
    have HF : Hid (N = 1) := by show _ = _; rw [HE.out]; rfl
    clear HE HN HQ HR h1 h2 h3 h4
    obtain ⟨tp, ts⟩ := t
    obtain ⟨yh, yt, ya, yv, yn, yd⟩ := y
    obtain ⟨h, t, aa, v, n, d⟩ := x
    unfold trV aV hV at *
    unfold trcs acs hcs at H0
    simp only at *
    generalize l.length = m at *
    have hflat : ∀ W, Tri w W ⟨tp, ts⟩ ⟨yh, yt, ya, yv, yn, yd⟩ (.slice p m cap) ⟨h, t, aa, v, n, d⟩ → (W.cell? ⟨w.heap.size, 0, none⟩ = some (.int .i64 tp) ∧ W.cell? ⟨w.heap.size, 1, none⟩ = some (.int .i64 ts)) ∧ (W.cell? ⟨w.heap.size + 1, 0, none⟩ = some (.int .i64 yh) ∧ W.cell? ⟨w.heap.size + 1, 1, none⟩ = some (.int .i64 yt) ∧ W.cell? ⟨w.heap.size + 1, 2, none⟩ = some (.string ya) ∧ W.cell? ⟨w.heap.size + 1, 3, none⟩ = some (.string yv) ∧ W.cell? ⟨w.heap.size + 1, 4, none⟩ = some (.string yn) ∧ W.cell? ⟨w.heap.size + 1, 5, none⟩ = some (.string yd) ∧ W.cell? ⟨w.heap.size + 1, 6, none⟩ = some (.slice p m cap)) ∧ (W.cell? ⟨w.heap.size + 2, 0, none⟩ = some (.int .i64 h) ∧ W.cell? ⟨w.heap.size + 2, 1, none⟩ = some (.int .i64 t) ∧ W.cell? ⟨w.heap.size + 2, 2, none⟩ = some (.string aa) ∧ W.cell? ⟨w.heap.size + 2, 3, none⟩ = some (.string v) ∧ W.cell? ⟨w.heap.size + 2, 4, none⟩ = some (.string n) ∧ W.cell? ⟨w.heap.size + 2, 5, none⟩ = some (.string d)) := fun W h => ⟨⟨h.1.cell 0 rfl, h.1.cell 1 rfl⟩, ⟨h.2.1.cell 0 rfl, h.2.1.cell 1 rfl, h.2.1.cell 2 rfl, h.2.1.cell 3 rfl, h.2.1.cell 4 rfl, h.2.1.cell 5 rfl, h.2.1.cell 6 rfl⟩, ⟨h.2.2.1.cell 0 rfl, h.2.2.1.cell 1 rfl, h.2.2.1.cell 2 rfl, h.2.2.1.cell 3 rfl, h.2.2.1.cell 4 rfl, h.2.2.1.cell 5 rfl⟩⟩
    obtain ⟨w0, hw0⟩ : ∃ W, ((w.alloc (Obj.cells #[Value.int .i64 tp, Value.int .i64 ts] 25)).alloc (Obj.cells #[Value.int .i64 yh, Value.int .i64 yt, Value.string ya, Value.string yv, Value.string yn, Value.string yd, Value.slice p m cap] 30)).alloc (Obj.cells #[Value.int .i64 h, Value.int .i64 t, Value.string aa, Value.string v, Value.string n, Value.string d] 27) = W := ⟨_, rfl⟩
    have HA0 : Hid (Tri w w0 ⟨tp, ts⟩ ⟨yh, yt, ya, yv, yn, yd⟩ (.slice p m cap) ⟨h, t, aa, v, n, d⟩) := by rw [← hw0]; exact H0.out
    clear H0
    obtain ⟨⟨at0, at1⟩, ⟨ay0, ay1, ay2, ay3, ay4, ay5, ay6⟩, ⟨ax0, ax1, ax2, ax3, ax4, ax5⟩⟩ := hflat _ HA0.out
    have HF2 : Hid (errV N = .iface 114 (.agg #[.int .i64 1])) := by show _ = _; rw [HF.out]; rfl
    rw [HF2.out]
    clear HF HF2
    go_enter Tryz.func38, Tryz.ntmps38
    go_wp2_with fail
    try rw [hw0]
    refine (kO _).mono ?_
    rintro e w1 ⟨rfl, bb⟩
    have HA1 : Hid (Tri w w1 ⟨tp, ts⟩ ⟨yh, yt, ya, yv, yn, yd⟩ (.slice p m cap) ⟨h, t, aa, v, n, d⟩) := HA0.out.step bb
    clear at0 at1 ay0 ay1 ay2 ay3 ay4 ay5 ay6 ax0 ax1 ax2 ax3 ax4 ax5 bb HA0 hw0
    obtain ⟨⟨at0, at1⟩, ⟨ay0, ay1, ay2, ay3, ay4, ay5, ay6⟩, ⟨ax0, ax1, ax2, ax3, ax4, ax5⟩⟩ := hflat _ HA1.out
    go_wp2_with fail
    refine (kA _ (HL.out.below HA1.out.2.2.2) (HT.out.below HA1.out.2.2.2 HT.out.pos)).mono ?_
    rintro e w2 ⟨rfl, bb⟩
    have HA2 : Hid (Tri w w2 ⟨tp, ts⟩ ⟨yh, yt, ya, yv, yn, yd⟩ (.slice p m cap) ⟨h, t, aa, v, n, d⟩) := HA1.out.step bb
    clear at0 at1 ay0 ay1 ay2 ay3 ay4 ay5 ay6 ax0 ax1 ax2 ax3 ax4 ax5 bb HA1
    obtain ⟨⟨at0, at1⟩, ⟨ay0, ay1, ay2, ay3, ay4, ay5, ay6⟩, ⟨ax0, ax1, ax2, ax3, ax4, ax5⟩⟩ := hflat _ HA2.out
    go_wp2_with fail
    refine (kH _).mono ?_
    rintro e w3 ⟨rfl, bb⟩
    have HA3 : Hid (Tri w w3 ⟨tp, ts⟩ ⟨yh, yt, ya, yv, yn, yd⟩ (.slice p m cap) ⟨h, t, aa, v, n, d⟩) := HA2.out.step bb
    clear at0 at1 ay0 ay1 ay2 ay3 ay4 ay5 ay6 ax0 ax1 ax2 ax3 ax4 ax5 bb HA2
    obtain ⟨⟨at0, at1⟩, ⟨ay0, ay1, ay2, ay3, ay4, ay5, ay6⟩, ⟨ax0, ax1, ax2, ax3, ax4, ax5⟩⟩ := hflat _ HA3.out
    go_wp2
    go_ret
    exact ⟨rfl, HA3.out.2.2.2⟩
  · obtain rfl : R = false := HR true true false true rfl rfl rfl rfl
    have HF : Hid (N = 1) := by show _ = _; rw [HE.out]; rfl
    clear HE HN HQ HR h1 h2 h3 h4
    obtain ⟨tp, ts⟩ := t
    obtain ⟨yh, yt, ya, yv, yn, yd⟩ := y
    obtain ⟨h, t, aa, v, n, d⟩ := x
    unfold trV aV hV at *
    unfold trcs acs hcs at H0
    simp only at *
    generalize l.length = m at *
    have hflat : ∀ W, Tri w W ⟨tp, ts⟩ ⟨yh, yt, ya, yv, yn, yd⟩ (.slice p m cap) ⟨h, t, aa, v, n, d⟩ → (W.cell? ⟨w.heap.size, 0, none⟩ = some (.int .i64 tp) ∧ W.cell? ⟨w.heap.size, 1, none⟩ = some (.int .i64 ts)) ∧ (W.cell? ⟨w.heap.size + 1, 0, none⟩ = some (.int .i64 yh) ∧ W.cell? ⟨w.heap.size + 1, 1, none⟩ = some (.int .i64 yt) ∧ W.cell? ⟨w.heap.size + 1, 2, none⟩ = some (.string ya) ∧ W.cell? ⟨w.heap.size + 1, 3, none⟩ = some (.string yv) ∧ W.cell? ⟨w.heap.size + 1, 4, none⟩ = some (.string yn) ∧ W.cell? ⟨w.heap.size + 1, 5, none⟩ = some (.string yd) ∧ W.cell? ⟨w.heap.size + 1, 6, none⟩ = some (.slice p m cap)) ∧ (W.cell? ⟨w.heap.size + 2, 0, none⟩ = some (.int .i64 h) ∧ W.cell? ⟨w.heap.size + 2, 1, none⟩ = some (.int .i64 t) ∧ W.cell? ⟨w.heap.size + 2, 2, none⟩ = some (.string aa) ∧ W.cell? ⟨w.heap.size + 2, 3, none⟩ = some (.string v) ∧ W.cell? ⟨w.heap.size + 2, 4, none⟩ = some (.string n) ∧ W.cell? ⟨w.heap.size + 2, 5, none⟩ = some (.string d)) := fun W h => ⟨⟨h.1.cell 0 rfl, h.1.cell 1 rfl⟩, ⟨h.2.1.cell 0 rfl, h.2.1.cell 1 rfl, h.2.1.cell 2 rfl, h.2.1.cell 3 rfl, h.2.1.cell 4 rfl, h.2.1.cell 5 rfl, h.2.1.cell 6 rfl⟩, ⟨h.2.2.1.cell 0 rfl, h.2.2.1.cell 1 rfl, h.2.2.1.cell 2 rfl, h.2.2.1.cell 3 rfl, h.2.2.1.cell 4 rfl, h.2.2.1.cell 5 rfl⟩⟩
    obtain ⟨w0, hw0⟩ : ∃ W, ((w.alloc (Obj.cells #[Value.int .i64 tp, Value.int .i64 ts] 25)).alloc (Obj.cells #[Value.int .i64 yh, Value.int .i64 yt, Value.string ya, Value.string yv, Value.string yn, Value.string yd, Value.slice p m cap] 30)).alloc (Obj.cells #[Value.int .i64 h, Value.int .i64 t, Value.string aa, Value.string v, Value.string n, Value.string d] 27) = W := ⟨_, rfl⟩
    have HA0 : Hid (Tri w w0 ⟨tp, ts⟩ ⟨yh, yt, ya, yv, yn, yd⟩ (.slice p m cap) ⟨h, t, aa, v, n, d⟩) := by rw [← hw0]; exact H0.out
    clear H0
    obtain ⟨⟨at0, at1⟩, ⟨ay0, ay1, ay2, ay3, ay4, ay5, ay6⟩, ⟨ax0, ax1, ax2, ax3, ax4, ax5⟩⟩ := hflat _ HA0.out
    have HF2 : Hid (errV N = .iface 114 (.agg #[.int .i64 1])) := by show _ = _; rw [HF.out]; rfl
    rw [HF2.out]
    clear HF HF2
    go_enter Tryz.func38, Tryz.ntmps38
    go_wp2_with fail
    try rw [hw0]
    refine (kO _).mono ?_
    rintro e w1 ⟨rfl, bb⟩
    have HA1 : Hid (Tri w w1 ⟨tp, ts⟩ ⟨yh, yt, ya, yv, yn, yd⟩ (.slice p m cap) ⟨h, t, aa, v, n, d⟩) := HA0.out.step bb
    clear at0 at1 ay0 ay1 ay2 ay3 ay4 ay5 ay6 ax0 ax1 ax2 ax3 ax4 ax5 bb HA0 hw0
    obtain ⟨⟨at0, at1⟩, ⟨ay0, ay1, ay2, ay3, ay4, ay5, ay6⟩, ⟨ax0, ax1, ax2, ax3, ax4, ax5⟩⟩ := hflat _ HA1.out
    go_wp2_with fail
    refine (kA _ (HL.out.below HA1.out.2.2.2) (HT.out.below HA1.out.2.2.2 HT.out.pos)).mono ?_
    rintro e w2 ⟨rfl, bb⟩
    have HA2 : Hid (Tri w w2 ⟨tp, ts⟩ ⟨yh, yt, ya, yv, yn, yd⟩ (.slice p m cap) ⟨h, t, aa, v, n, d⟩) := HA1.out.step bb
    clear at0 at1 ay0 ay1 ay2 ay3 ay4 ay5 ay6 ax0 ax1 ax2 ax3 ax4 ax5 bb HA1
    obtain ⟨⟨at0, at1⟩, ⟨ay0, ay1, ay2, ay3, ay4, ay5, ay6⟩, ⟨ax0, ax1, ax2, ax3, ax4, ax5⟩⟩ := hflat _ HA2.out
    go_wp2_with fail
    refine (kH _).mono ?_
    rintro e w3 ⟨rfl, bb⟩
    have HA3 : Hid (Tri w w3 ⟨tp, ts⟩ ⟨yh, yt, ya, yv, yn, yd⟩ (.slice p m cap) ⟨h, t, aa, v, n, d⟩) := HA2.out.step bb
    clear at0 at1 ay0 ay1 ay2 ay3 ay4 ay5 ay6 ax0 ax1 ax2 ax3 ax4 ax5 bb HA2
    obtain ⟨⟨at0, at1⟩, ⟨ay0, ay1, ay2, ay3, ay4, ay5, ay6⟩, ⟨ax0, ax1, ax2, ax3, ax4, ax5⟩⟩ := hflat _ HA3.out
    go_wp2
    go_ret
    exact ⟨rfl, HA3.out.2.2.2⟩
  · obtain rfl : R = false := HR true true true false rfl rfl rfl rfl
    have HF : Hid (N = 1) := by show _ = _; rw [HE.out]; rfl
    clear HE HN HQ HR h1 h2 h3 h4
    obtain ⟨tp, ts⟩ := t
    obtain ⟨yh, yt, ya, yv, yn, yd⟩ := y
    obtain ⟨h, t, aa, v, n, d⟩ := x
    unfold trV aV hV at *
    unfold trcs acs hcs at H0
    simp only at *
    generalize l.length = m at *
    have hflat : ∀ W, Tri w W ⟨tp, ts⟩ ⟨yh, yt, ya, yv, yn, yd⟩ (.slice p m cap) ⟨h, t, aa, v, n, d⟩ → (W.cell? ⟨w.heap.size, 0, none⟩ = some (.int .i64 tp) ∧ W.cell? ⟨w.heap.size, 1, none⟩ = some (.int .i64 ts)) ∧ (W.cell? ⟨w.heap.size + 1, 0, none⟩ = some (.int .i64 yh) ∧ W.cell? ⟨w.heap.size + 1, 1, none⟩ = some (.int .i64 yt) ∧ W.cell? ⟨w.heap.size + 1, 2, none⟩ = some (.string ya) ∧ W.cell? ⟨w.heap.size + 1, 3, none⟩ = some (.string yv) ∧ W.cell? ⟨w.heap.size + 1, 4, none⟩ = some (.string yn) ∧ W.cell? ⟨w.heap.size + 1, 5, none⟩ = some (.string yd) ∧ W.cell? ⟨w.heap.size + 1, 6, none⟩ = some (.slice p m cap)) ∧ (W.cell? ⟨w.heap.size + 2, 0, none⟩ = some (.int .i64 h) ∧ W.cell? ⟨w.heap.size + 2, 1, none⟩ = some (.int .i64 t) ∧ W.cell? ⟨w.heap.size + 2, 2, none⟩ = some (.string aa) ∧ W.cell? ⟨w.heap.size + 2, 3, none⟩ = some (.string v) ∧ W.cell? ⟨w.heap.size + 2, 4, none⟩ = some (.string n) ∧ W.cell? ⟨w.heap.size + 2, 5, none⟩ = some (.string d)) := fun W h => ⟨⟨h.1.cell 0 rfl, h.1.cell 1 rfl⟩, ⟨h.2.1.cell 0 rfl, h.2.1.cell 1 rfl, h.2.1.cell 2 rfl, h.2.1.cell 3 rfl, h.2.1.cell 4 rfl, h.2.1.cell 5 rfl, h.2.1.cell 6 rfl⟩, ⟨h.2.2.1.cell 0 rfl, h.2.2.1.cell 1 rfl, h.2.2.1.cell 2 rfl, h.2.2.1.cell 3 rfl, h.2.2.1.cell 4 rfl, h.2.2.1.cell 5 rfl⟩⟩
    obtain ⟨w0, hw0⟩ : ∃ W, ((w.alloc (Obj.cells #[Value.int .i64 tp, Value.int .i64 ts] 25)).alloc (Obj.cells #[Value.int .i64 yh, Value.int .i64 yt, Value.string ya, Value.string yv, Value.string yn, Value.string yd, Value.slice p m cap] 30)).alloc (Obj.cells #[Value.int .i64 h, Value.int .i64 t, Value.string aa, Value.string v, Value.string n, Value.string d] 27) = W := ⟨_, rfl⟩
    have HA0 : Hid (Tri w w0 ⟨tp, ts⟩ ⟨yh, yt, ya, yv, yn, yd⟩ (.slice p m cap) ⟨h, t, aa, v, n, d⟩) := by rw [← hw0]; exact H0.out
    clear H0
    obtain ⟨⟨at0, at1⟩, ⟨ay0, ay1, ay2, ay3, ay4, ay5, ay6⟩, ⟨ax0, ax1, ax2, ax3, ax4, ax5⟩⟩ := hflat _ HA0.out
    have HF2 : Hid (errV N = .iface 114 (.agg #[.int .i64 1])) := by show _ = _; rw [HF.out]; rfl
    rw [HF2.out]
    clear HF HF2
    go_enter Tryz.func38, Tryz.ntmps38
    go_wp2_with fail
    try rw [hw0]
    refine (kO _).mono ?_
    rintro e w1 ⟨rfl, bb⟩
    have HA1 : Hid (Tri w w1 ⟨tp, ts⟩ ⟨yh, yt, ya, yv, yn, yd⟩ (.slice p m cap) ⟨h, t, aa, v, n, d⟩) := HA0.out.step bb
    clear at0 at1 ay0 ay1 ay2 ay3 ay4 ay5 ay6 ax0 ax1 ax2 ax3 ax4 ax5 bb HA0 hw0
    obtain ⟨⟨at0, at1⟩, ⟨ay0, ay1, ay2, ay3, ay4, ay5, ay6⟩, ⟨ax0, ax1, ax2, ax3, ax4, ax5⟩⟩ := hflat _ HA1.out
    go_wp2_with fail
    refine (kA _ (HL.out.below HA1.out.2.2.2) (HT.out.below HA1.out.2.2.2 HT.out.pos)).mono ?_
    rintro e w2 ⟨rfl, bb⟩
    have HA2 : Hid (Tri w w2 ⟨tp, ts⟩ ⟨yh, yt, ya, yv, yn, yd⟩ (.slice p m cap) ⟨h, t, aa, v, n, d⟩) := HA1.out.step bb
    clear at0 at1 ay0 ay1 ay2 ay3 ay4 ay5 ay6 ax0 ax1 ax2 ax3 ax4 ax5 bb HA1
    obtain ⟨⟨at0, at1⟩, ⟨ay0, ay1, ay2, ay3, ay4, ay5, ay6⟩, ⟨ax0, ax1, ax2, ax3, ax4, ax5⟩⟩ := hflat _ HA2.out
    go_wp2_with fail
    refine (kH _).mono ?_
    rintro e w3 ⟨rfl, bb⟩
    have HA3 : Hid (Tri w w3 ⟨tp, ts⟩ ⟨yh, yt, ya, yv, yn, yd⟩ (.slice p m cap) ⟨h, t, aa, v, n, d⟩) := HA2.out.step bb
    clear at0 at1 ay0 ay1 ay2 ay3 ay4 ay5 ay6 ax0 ax1 ax2 ax3 ax4 ax5 bb HA2
    obtain ⟨⟨at0, at1⟩, ⟨ay0, ay1, ay2, ay3, ay4, ay5, ay6⟩, ⟨ax0, ax1, ax2, ax3, ax4, ax5⟩⟩ := hflat _ HA3.out
    go_wp2_with fail
    refine (kT _).mono ?_
    rintro e wz ⟨rfl, rfl⟩
    go_wp2
    go_ret
    exact ⟨rfl, HA3.out.2.2.2⟩
  · obtain rfl : R = true := HR true true true true rfl rfl rfl rfl
    obtain ⟨n1, n2, n3, n4, n5, n6, n7⟩ := HN rfl
    have HE1 := HE.out
    rw [if_pos rfl] at HE1
    rw [HQ rfl] at kE
    clear HE HN HQ HR h1 h2 h3 h4
    obtain ⟨tp, ts⟩ := t
    obtain ⟨yh, yt, ya, yv, yn, yd⟩ := y
    obtain ⟨h, t, aa, v, n, d⟩ := x
    unfold trV aV hV at *
    unfold trcs acs hcs at H0
    simp only at *
    generalize l.length = m at *
    have hflat : ∀ W, Tri w W ⟨tp, ts⟩ ⟨yh, yt, ya, yv, yn, yd⟩ (.slice p m cap) ⟨h, t, aa, v, n, d⟩ → (W.cell? ⟨w.heap.size, 0, none⟩ = some (.int .i64 tp) ∧ W.cell? ⟨w.heap.size, 1, none⟩ = some (.int .i64 ts)) ∧ (W.cell? ⟨w.heap.size + 1, 0, none⟩ = some (.int .i64 yh) ∧ W.cell? ⟨w.heap.size + 1, 1, none⟩ = some (.int .i64 yt) ∧ W.cell? ⟨w.heap.size + 1, 2, none⟩ = some (.string ya) ∧ W.cell? ⟨w.heap.size + 1, 3, none⟩ = some (.string yv) ∧ W.cell? ⟨w.heap.size + 1, 4, none⟩ = some (.string yn) ∧ W.cell? ⟨w.heap.size + 1, 5, none⟩ = some (.string yd) ∧ W.cell? ⟨w.heap.size + 1, 6, none⟩ = some (.slice p m cap)) ∧ (W.cell? ⟨w.heap.size + 2, 0, none⟩ = some (.int .i64 h) ∧ W.cell? ⟨w.heap.size + 2, 1, none⟩ = some (.int .i64 t) ∧ W.cell? ⟨w.heap.size + 2, 2, none⟩ = some (.string aa) ∧ W.cell? ⟨w.heap.size + 2, 3, none⟩ = some (.string v) ∧ W.cell? ⟨w.heap.size + 2, 4, none⟩ = some (.string n) ∧ W.cell? ⟨w.heap.size + 2, 5, none⟩ = some (.string d)) := fun W h => ⟨⟨h.1.cell 0 rfl, h.1.cell 1 rfl⟩, ⟨h.2.1.cell 0 rfl, h.2.1.cell 1 rfl, h.2.1.cell 2 rfl, h.2.1.cell 3 rfl, h.2.1.cell 4 rfl, h.2.1.cell 5 rfl, h.2.1.cell 6 rfl⟩, ⟨h.2.2.1.cell 0 rfl, h.2.2.1.cell 1 rfl, h.2.2.1.cell 2 rfl, h.2.2.1.cell 3 rfl, h.2.2.1.cell 4 rfl, h.2.2.1.cell 5 rfl⟩⟩
    obtain ⟨w0, hw0⟩ : ∃ W, ((w.alloc (Obj.cells #[Value.int .i64 tp, Value.int .i64 ts] 25)).alloc (Obj.cells #[Value.int .i64 yh, Value.int .i64 yt, Value.string ya, Value.string yv, Value.string yn, Value.string yd, Value.slice p m cap] 30)).alloc (Obj.cells #[Value.int .i64 h, Value.int .i64 t, Value.string aa, Value.string v, Value.string n, Value.string d] 27) = W := ⟨_, rfl⟩
    have HA0 : Hid (Tri w w0 ⟨tp, ts⟩ ⟨yh, yt, ya, yv, yn, yd⟩ (.slice p m cap) ⟨h, t, aa, v, n, d⟩) := by rw [← hw0]; exact H0.out
    clear H0
    obtain ⟨⟨at0, at1⟩, ⟨ay0, ay1, ay2, ay3, ay4, ay5, ay6⟩, ⟨ax0, ax1, ax2, ax3, ax4, ax5⟩⟩ := hflat _ HA0.out
    obtain ⟨M, hM⟩ : ∃ M, yt + tp = M := ⟨_, rfl⟩
    have hM0 : 1 ≤ M ∧ M ≤ 1100000 := by omega
    rw [hM] at kE HE1
    clear hM
    by_cases g1 : M < z
    · rw [if_pos g1] at HE1
      have HF : Hid (N = 2) := HE1
      clear HE1
      have HF2 : Hid (errV N = .iface 114 (.agg #[.int .i64 2])) := by show _ = _; rw [HF.out]; rfl
      rw [HF2.out]
      clear HF HF2
      go_enter Tryz.func38, Tryz.ntmps38
      go_wp2_with fail
      try rw [hw0]
      refine (kO _).mono ?_
      rintro e w1 ⟨rfl, bb⟩
      have HA1 : Hid (Tri w w1 ⟨tp, ts⟩ ⟨yh, yt, ya, yv, yn, yd⟩ (.slice p m cap) ⟨h, t, aa, v, n, d⟩) := HA0.out.step bb
      clear at0 at1 ay0 ay1 ay2 ay3 ay4 ay5 ay6 ax0 ax1 ax2 ax3 ax4 ax5 bb HA0 hw0
      obtain ⟨⟨at0, at1⟩, ⟨ay0, ay1, ay2, ay3, ay4, ay5, ay6⟩, ⟨ax0, ax1, ax2, ax3, ax4, ax5⟩⟩ := hflat _ HA1.out
      go_wp2_with fail
      refine (kA _ (HL.out.below HA1.out.2.2.2) (HT.out.below HA1.out.2.2.2 HT.out.pos)).mono ?_
      rintro e w2 ⟨rfl, bb⟩
      have HA2 : Hid (Tri w w2 ⟨tp, ts⟩ ⟨yh, yt, ya, yv, yn, yd⟩ (.slice p m cap) ⟨h, t, aa, v, n, d⟩) := HA1.out.step bb
      clear at0 at1 ay0 ay1 ay2 ay3 ay4 ay5 ay6 ax0 ax1 ax2 ax3 ax4 ax5 bb HA1
      obtain ⟨⟨at0, at1⟩, ⟨ay0, ay1, ay2, ay3, ay4, ay5, ay6⟩, ⟨ax0, ax1, ax2, ax3, ax4, ax5⟩⟩ := hflat _ HA2.out
      go_wp2_with fail
      refine (kH _).mono ?_
      rintro e w3 ⟨rfl, bb⟩
      have HA3 : Hid (Tri w w3 ⟨tp, ts⟩ ⟨yh, yt, ya, yv, yn, yd⟩ (.slice p m cap) ⟨h, t, aa, v, n, d⟩) := HA2.out.step bb
      clear at0 at1 ay0 ay1 ay2 ay3 ay4 ay5 ay6 ax0 ax1 ax2 ax3 ax4 ax5 bb HA2
      obtain ⟨⟨at0, at1⟩, ⟨ay0, ay1, ay2, ay3, ay4, ay5, ay6⟩, ⟨ax0, ax1, ax2, ax3, ax4, ax5⟩⟩ := hflat _ HA3.out
      go_wp2_with fail
      refine (kT _).mono ?_
      rintro e wz ⟨rfl, rfl⟩
      go_wp2_with fail
      refine (kE _).mono ?_
      rintro e w4 ⟨rfl, bb⟩
      have HA4 : Hid (Tri w w4 ⟨tp, ts⟩ ⟨yh, yt, ya, yv, yn, yd⟩ (.slice p m cap) ⟨h, t, aa, v, n, d⟩) := HA3.out.step bb
      clear at0 at1 ay0 ay1 ay2 ay3 ay4 ay5 ay6 ax0 ax1 ax2 ax3 ax4 ax5 bb HA3
      obtain ⟨⟨at0, at1⟩, ⟨ay0, ay1, ay2, ay3, ay4, ay5, ay6⟩, ⟨ax0, ax1, ax2, ax3, ax4, ax5⟩⟩ := hflat _ HA4.out
      go_wp2
      go_ret
      exact ⟨rfl, HA4.out.2.2.2⟩
    rw [if_neg g1] at HE1
    by_cases g2 : z + ts < t
    · rw [if_pos g2] at HE1
      have HF : Hid (N = 3) := HE1
      clear HE1
      have HF2 : Hid (errV N = .iface 114 (.agg #[.int .i64 3])) := by show _ = _; rw [HF.out]; rfl
      rw [HF2.out]
      clear HF HF2
      go_enter Tryz.func38, Tryz.ntmps38
      go_wp2_with fail
      try rw [hw0]
      refine (kO _).mono ?_
      rintro e w1 ⟨rfl, bb⟩
      have HA1 : Hid (Tri w w1 ⟨tp, ts⟩ ⟨yh, yt, ya, yv, yn, yd⟩ (.slice p m cap) ⟨h, t, aa, v, n, d⟩) := HA0.out.step bb
      clear at0 at1 ay0 ay1 ay2 ay3 ay4 ay5 ay6 ax0 ax1 ax2 ax3 ax4 ax5 bb HA0 hw0
      obtain ⟨⟨at0, at1⟩, ⟨ay0, ay1, ay2, ay3, ay4, ay5, ay6⟩, ⟨ax0, ax1, ax2, ax3, ax4, ax5⟩⟩ := hflat _ HA1.out
      go_wp2_with fail
      refine (kA _ (HL.out.below HA1.out.2.2.2) (HT.out.below HA1.out.2.2.2 HT.out.pos)).mono ?_
      rintro e w2 ⟨rfl, bb⟩
      have HA2 : Hid (Tri w w2 ⟨tp, ts⟩ ⟨yh, yt, ya, yv, yn, yd⟩ (.slice p m cap) ⟨h, t, aa, v, n, d⟩) := HA1.out.step bb
      clear at0 at1 ay0 ay1 ay2 ay3 ay4 ay5 ay6 ax0 ax1 ax2 ax3 ax4 ax5 bb HA1
      obtain ⟨⟨at0, at1⟩, ⟨ay0, ay1, ay2, ay3, ay4, ay5, ay6⟩, ⟨ax0, ax1, ax2, ax3, ax4, ax5⟩⟩ := hflat _ HA2.out
      go_wp2_with fail
      refine (kH _).mono ?_
      rintro e w3 ⟨rfl, bb⟩
      have HA3 : Hid (Tri w w3 ⟨tp, ts⟩ ⟨yh, yt, ya, yv, yn, yd⟩ (.slice p m cap) ⟨h, t, aa, v, n, d⟩) := HA2.out.step bb
      clear at0 at1 ay0 ay1 ay2 ay3 ay4 ay5 ay6 ax0 ax1 ax2 ax3 ax4 ax5 bb HA2
      obtain ⟨⟨at0, at1⟩, ⟨ay0, ay1, ay2, ay3, ay4, ay5, ay6⟩, ⟨ax0, ax1, ax2, ax3, ax4, ax5⟩⟩ := hflat _ HA3.out
      go_wp2_with fail
      refine (kT _).mono ?_
      rintro e wz ⟨rfl, rfl⟩
      go_wp2_with fail
      refine (kE _).mono ?_
      rintro e w4 ⟨rfl, bb⟩
      have HA4 : Hid (Tri w w4 ⟨tp, ts⟩ ⟨yh, yt, ya, yv, yn, yd⟩ (.slice p m cap) ⟨h, t, aa, v, n, d⟩) := HA3.out.step bb
      clear at0 at1 ay0 ay1 ay2 ay3 ay4 ay5 ay6 ax0 ax1 ax2 ax3 ax4 ax5 bb HA3
      obtain ⟨⟨at0, at1⟩, ⟨ay0, ay1, ay2, ay3, ay4, ay5, ay6⟩, ⟨ax0, ax1, ax2, ax3, ax4, ax5⟩⟩ := hflat _ HA4.out
      go_wp2
      go_ret
      exact ⟨rfl, HA4.out.2.2.2⟩
    · rw [if_neg g2] at HE1
      have HF : Hid (N = 0) := HE1
      clear HE1
      have HF2 : Hid (errV N = .nilIface) := by show _ = _; rw [HF.out]; rfl
      rw [HF2.out]
      clear HF HF2
      go_enter Tryz.func38, Tryz.ntmps38
      go_wp2_with fail
      try rw [hw0]
      refine (kO _).mono ?_
      rintro e w1 ⟨rfl, bb⟩
      have HA1 : Hid (Tri w w1 ⟨tp, ts⟩ ⟨yh, yt, ya, yv, yn, yd⟩ (.slice p m cap) ⟨h, t, aa, v, n, d⟩) := HA0.out.step bb
      clear at0 at1 ay0 ay1 ay2 ay3 ay4 ay5 ay6 ax0 ax1 ax2 ax3 ax4 ax5 bb HA0 hw0
      obtain ⟨⟨at0, at1⟩, ⟨ay0, ay1, ay2, ay3, ay4, ay5, ay6⟩, ⟨ax0, ax1, ax2, ax3, ax4, ax5⟩⟩ := hflat _ HA1.out
      go_wp2_with fail
      refine (kA _ (HL.out.below HA1.out.2.2.2) (HT.out.below HA1.out.2.2.2 HT.out.pos)).mono ?_
      rintro e w2 ⟨rfl, bb⟩
      have HA2 : Hid (Tri w w2 ⟨tp, ts⟩ ⟨yh, yt, ya, yv, yn, yd⟩ (.slice p m cap) ⟨h, t, aa, v, n, d⟩) := HA1.out.step bb
      clear at0 at1 ay0 ay1 ay2 ay3 ay4 ay5 ay6 ax0 ax1 ax2 ax3 ax4 ax5 bb HA1
      obtain ⟨⟨at0, at1⟩, ⟨ay0, ay1, ay2, ay3, ay4, ay5, ay6⟩, ⟨ax0, ax1, ax2, ax3, ax4, ax5⟩⟩ := hflat _ HA2.out
      go_wp2_with fail
      refine (kH _).mono ?_
      rintro e w3 ⟨rfl, bb⟩
      have HA3 : Hid (Tri w w3 ⟨tp, ts⟩ ⟨yh, yt, ya, yv, yn, yd⟩ (.slice p m cap) ⟨h, t, aa, v, n, d⟩) := HA2.out.step bb
      clear at0 at1 ay0 ay1 ay2 ay3 ay4 ay5 ay6 ax0 ax1 ax2 ax3 ax4 ax5 bb HA2
      obtain ⟨⟨at0, at1⟩, ⟨ay0, ay1, ay2, ay3, ay4, ay5, ay6⟩, ⟨ax0, ax1, ax2, ax3, ax4, ax5⟩⟩ := hflat _ HA3.out
      go_wp2_with fail
      refine (kT _).mono ?_
      rintro e wz ⟨rfl, rfl⟩
      go_wp2_with fail
      refine (kE _).mono ?_
      rintro e w4 ⟨rfl, bb⟩
      have HA4 : Hid (Tri w w4 ⟨tp, ts⟩ ⟨yh, yt, ya, yv, yn, yd⟩ (.slice p m cap) ⟨h, t, aa, v, n, d⟩) := HA3.out.step bb
      clear at0 at1 ay0 ay1 ay2 ay3 ay4 ay5 ay6 ax0 ax1 ax2 ax3 ax4 ax5 bb HA3
      obtain ⟨⟨at0, at1⟩, ⟨ay0, ay1, ay2, ay3, ay4, ay5, ay6⟩, ⟨ax0, ax1, ax2, ax3, ax4, ax5⟩⟩ := hflat _ HA4.out
      go_wp2
      go_ret
      exact ⟨rfl, HA4.out.2.2.2⟩
end Go.Proofs.YtajfmjgaaapjeaaGreatDoor
