/- What the laws' helpers of chapter 12 answer at one vote and at evidence; old memory stays. Conditions: texts that a machine can hold. -/
import Derived.Test.YtclajbadeclbdaaDoorLq
import Derived.Test.YtclajbadeclbdaaDoorVz
import Derived.Deep.CutBlock
import Derived.Deep.DeepCutAuto
namespace Go.Proofs.YtclajbadeclbdaaDoor
open Go.RowKit
open Num
set_option linter.unusedVariables false
def SzY (y : Sv) : Prop := y.x.i.size ≤ 9223372036854775807 ∧ y.s.size ≤ 9223372036854775807
def SmY (y : Sv) : Prop := y.x.i.size ≤ 1048576 ∧ y.s.size ≤ 1048576
theorem SmY.sz {y : Sv} (h : SmY y) : SzY y := ⟨by have := h.1; omega, by have := h.2; omega⟩
set_option maxHeartbeats 800000 in
set_option maxRecDepth 100000 in
theorem sz_vt (x : Vt) (left : Int) (w : World) (hx : x.i.size ≤ 9223372036854775807) (h0 : 0 ≤ left) (h1 : left ≤ 1048576) :
    Calls Tryd.prog 60 #[tV x, .int .i64 left] w fun e w' => ∃ q : Int, e = .returned (.int .i64 q) ∧ -1 ≤ q ∧ q ≤ left ∧ Hid (0 ≤ q → x.i.size ≤ 1048576) ∧ Below w.heap.size w w' := by
  obtain ⟨h, r, s, i, v⟩ := x
  unfold tV
  simp only at *
  by_cases hc : left - (i.size : Int) < 0
  · go_enter Tryd.func60, Tryd.ntmps60
    go_wp2
    go_ret
    exact ⟨_, rfl, by omega, by omega, fun h => absurd h (by decide), below_one _ _⟩
  · have HI : Hid (i.size ≤ 1048576) := by show i.size ≤ 1048576; omega
    go_enter Tryd.func60, Tryd.ntmps60
    go_wp2
    go_ret
    exact ⟨_, rfl, by omega, by omega, fun _ => HI.out, below_one _ _⟩
set_option maxHeartbeats 800000 in
set_option maxRecDepth 100000 in
theorem sz_sv (y : Sv) (left : Int) (w : World) (hy : SzY y) (h0 : 0 ≤ left) (h1 : left ≤ 1048576) :
    Calls Tryd.prog 42 #[yV y, .int .i64 left] w fun e w' => ∃ q : Int, e = .returned (.int .i64 q) ∧ -1 ≤ q ∧ q ≤ left ∧ Hid (0 ≤ q → SmY y) ∧ Below w.heap.size w w' := by
  have kV := fun W => sz_vt y.x left W hy.1 h0 h1
  have HSm : Hid (y.x.i.size ≤ 1048576 → y.s.size ≤ 1048576 → SmY y) := fun a b => ⟨a, b⟩
  have hg := hy.2
  clear hy
  generalize SmY y = P at *
  obtain ⟨⟨h, r, s, i, v⟩, g⟩ := y
  unfold yV
  unfold tV at kV
  simp only at kV HSm hg ⊢
  have HX : Hid (Blk (w.alloc (.cells [.int .i64 h, .int .i64 r, .int .i64 s, .string i, .int .i64 v, .string g].toArray 43)) w.heap.size [.int .i64 h, .int .i64 r, .int .i64 s, .string i, .int .i64 v, .string g] 43) := blk_new w _ _
  have HB : Hid (Below w.heap.size w (w.alloc (.cells [.int .i64 h, .int .i64 r, .int .i64 s, .string i, .int .i64 v, .string g].toArray 43))) := below_one _ _
  go_enter Tryd.func42, Tryd.ntmps42
  go_wp2_with fail
  generalize w.alloc (Obj.cells #[.int .i64 h, .int .i64 r, .int .i64 s, .string i, .int .i64 v, .string g] 43) = w1 at *
  refine (kV _).mono ?_
  rintro e w2 ⟨q, rfl, hq1, hq2, HQ, b2⟩
  have HX2 := HX.out.below b2 HX.out.lt
  have HB2 : Hid (Below w.heap.size w w2) := HB.out.trans (b2.mono HB.out.size)
  clear HX HB b2 kV
  have x5 := HX2.cell 5 rfl
  by_cases hq : q < 0
  · go_wp2
    go_ret
    exact ⟨_, rfl, by omega, by omega, fun h => absurd h (by decide), HB2.out⟩
  · by_cases hc : q - (g.size : Int) < 0
    · go_wp2
      go_ret
      exact ⟨_, rfl, by omega, by omega, fun h => absurd h (by decide), HB2.out⟩
    · have hP : P := HSm.out (HQ.out (by omega)) (by omega)
      have HP : Hid P := hP
      clear hP HQ
      go_wp2
      go_ret
      exact ⟨_, rfl, by omega, by omega, fun _ => HP.out, HB2.out⟩
set_option maxHeartbeats 800000 in
set_option maxRecDepth 100000 in
theorem sz_ev (a b : Sv) (left : Int) (w : World) (ha : SzY a) (hb : SzY b) (h0 : 0 ≤ left) (h1 : left ≤ 1048576) :
    Calls Tryd.prog 19 #[eV a b, .int .i64 left] w fun e w' => ∃ q : Int, e = .returned (.int .i64 q) ∧ Hid (0 ≤ q → SmY a ∧ SmY b) ∧ Below w.heap.size w w' := by
  have kA := fun W => sz_sv a left W ha h0 h1
  have kB := fun (q : Int) W (h0 : 0 ≤ q) (h1 : q ≤ 1048576) => sz_sv b q W hb h0 h1
  clear ha hb
  generalize SmY a = P at *
  generalize SmY b = Q at *
  obtain ⟨⟨h, r, s, i, v⟩, g⟩ := a
  obtain ⟨⟨h', r', s', i', v'⟩, g'⟩ := b
  unfold eV
  unfold yV at kA kB
  simp only at kA kB ⊢
  have HX : Hid (Blk (w.alloc (.cells [.int .i64 h, .int .i64 r, .int .i64 s, .string i, .int .i64 v, .string g, .int .i64 h', .int .i64 r', .int .i64 s', .string i', .int .i64 v', .string g'].toArray 45)) w.heap.size [.int .i64 h, .int .i64 r, .int .i64 s, .string i, .int .i64 v, .string g, .int .i64 h', .int .i64 r', .int .i64 s', .string i', .int .i64 v', .string g'] 45) := blk_new w _ _
  have HB : Hid (Below w.heap.size w (w.alloc (.cells [.int .i64 h, .int .i64 r, .int .i64 s, .string i, .int .i64 v, .string g, .int .i64 h', .int .i64 r', .int .i64 s', .string i', .int .i64 v', .string g'].toArray 45))) := below_one _ _
  go_enter Tryd.func19, Tryd.ntmps19
  go_wp2_with fail
  generalize w.alloc (Obj.cells #[.int .i64 h, .int .i64 r, .int .i64 s, .string i, .int .i64 v, .string g, .int .i64 h', .int .i64 r', .int .i64 s', .string i', .int .i64 v', .string g'] 45) = w1 at *
  refine (kA _).mono ?_
  rintro e w2 ⟨q, rfl, hq1, hq2, HQ, b2⟩
  have HX2 : Hid (Blk w2 w.heap.size [.int .i64 h, .int .i64 r, .int .i64 s, .string i, .int .i64 v, .string g, .int .i64 h', .int .i64 r', .int .i64 s', .string i', .int .i64 v', .string g'] 45) := HX.out.below b2 HX.out.lt
  have HB2 : Hid (Below w.heap.size w w2) := HB.out.trans (b2.mono HB.out.size)
  clear HX HB b2 kA
  have x6 := HX2.out.cell 6 rfl
  have x7 := HX2.out.cell 7 rfl
  have x8 := HX2.out.cell 8 rfl
  have x9 := HX2.out.cell 9 rfl
  have x10 := HX2.out.cell 10 rfl
  have x11 := HX2.out.cell 11 rfl
  by_cases hq : q < 0
  · go_wp2
    go_ret
    exact ⟨_, rfl, fun h => absurd h (by decide), HB2.out⟩
  · go_wp2_with fail
    refine (kB q _ (by omega) (by omega)).mono ?_
    rintro e w3 ⟨p, rfl, hp1, hp2, HP, b3⟩
    have HB3 : Hid (Below w.heap.size w w3) := HB2.out.trans (b3.mono HB2.out.size)
    have HPQ : Hid (0 ≤ p → P ∧ Q) := fun hp => ⟨HQ.out (by omega), HP.out hp⟩
    by_cases hp : p < 0
    · go_wp2
      go_ret
      exact ⟨_, rfl, fun h => absurd h (by decide), HB3.out⟩
    · go_wp2
      go_ret
      exact ⟨_, rfl, HPQ, HB3.out⟩
set_option maxHeartbeats 800000 in
set_option maxRecDepth 100000 in
theorem to_vt (x : Vt) (w : World) :
    Calls Tryd.prog 61 #[tV x] w fun e w' => e = .returned (tV x) ∧ Below w.heap.size w w' := to_vote x w
set_option maxHeartbeats 1600000 in
set_option maxRecDepth 100000 in
theorem to_sv (y : Sv) (w : World) :
    Calls Tryd.prog 43 #[yV y] w fun e w' => e = .returned (yV y) ∧ Below w.heap.size w w' := by
  have kV := fun W => to_vt y.x W
  obtain ⟨⟨h, r, s, i, v⟩, g⟩ := y
  unfold yV
  unfold tV at kV
  simp only at kV ⊢
  have HX : Hid (Blk (((w.alloc (.cells [.int .i64 h, .int .i64 r, .int .i64 s, .string i, .int .i64 v, .string g].toArray 43)).alloc (.cells [.int .i64 0, .int .i64 0, .int .i64 0, .string ⟨#[]⟩, .int .i64 0, .string ⟨#[]⟩].toArray 32)).alloc (.cells [.int .i64 0, .int .i64 0, .int .i64 0, .string ⟨#[]⟩, .int .i64 0, .string ⟨#[]⟩].toArray 32)) w.heap.size [.int .i64 h, .int .i64 r, .int .i64 s, .string i, .int .i64 v, .string g] 43) := ((blk_new w _ _).alloc _).alloc _
  have HR : Hid (Blk (((w.alloc (.cells [.int .i64 h, .int .i64 r, .int .i64 s, .string i, .int .i64 v, .string g].toArray 43)).alloc (.cells [.int .i64 0, .int .i64 0, .int .i64 0, .string ⟨#[]⟩, .int .i64 0, .string ⟨#[]⟩].toArray 32)).alloc (.cells [.int .i64 0, .int .i64 0, .int .i64 0, .string ⟨#[]⟩, .int .i64 0, .string ⟨#[]⟩].toArray 32)) (w.heap.size + 1) [.int .i64 0, .int .i64 0, .int .i64 0, .string ⟨#[]⟩, .int .i64 0, .string ⟨#[]⟩] 32) := by
    have h1 := blk_new (w.alloc (.cells [.int .i64 h, .int .i64 r, .int .i64 s, .string i, .int .i64 v, .string g].toArray 43)) [.int .i64 0, .int .i64 0, .int .i64 0, .string ⟨#[]⟩, .int .i64 0, .string ⟨#[]⟩] 32
    have e : (w.alloc (.cells [.int .i64 h, .int .i64 r, .int .i64 s, .string i, .int .i64 v, .string g].toArray 43)).heap.size = w.heap.size + 1 := by simp
    rw [e] at h1; exact h1.alloc _
  have HL : Hid (Blk (((w.alloc (.cells [.int .i64 h, .int .i64 r, .int .i64 s, .string i, .int .i64 v, .string g].toArray 43)).alloc (.cells [.int .i64 0, .int .i64 0, .int .i64 0, .string ⟨#[]⟩, .int .i64 0, .string ⟨#[]⟩].toArray 32)).alloc (.cells [.int .i64 0, .int .i64 0, .int .i64 0, .string ⟨#[]⟩, .int .i64 0, .string ⟨#[]⟩].toArray 32)) (w.heap.size + 2) [.int .i64 0, .int .i64 0, .int .i64 0, .string ⟨#[]⟩, .int .i64 0, .string ⟨#[]⟩] 32) := by
    have h1 := blk_new ((w.alloc (.cells [.int .i64 h, .int .i64 r, .int .i64 s, .string i, .int .i64 v, .string g].toArray 43)).alloc (.cells [.int .i64 0, .int .i64 0, .int .i64 0, .string ⟨#[]⟩, .int .i64 0, .string ⟨#[]⟩].toArray 32)) [.int .i64 0, .int .i64 0, .int .i64 0, .string ⟨#[]⟩, .int .i64 0, .string ⟨#[]⟩] 32
    have e : ((w.alloc (.cells [.int .i64 h, .int .i64 r, .int .i64 s, .string i, .int .i64 v, .string g].toArray 43)).alloc (.cells [.int .i64 0, .int .i64 0, .int .i64 0, .string ⟨#[]⟩, .int .i64 0, .string ⟨#[]⟩].toArray 32)).heap.size = w.heap.size + 2 := by simp
    rw [e] at h1; exact h1
  have HB : Hid (Below w.heap.size w (((w.alloc (.cells [.int .i64 h, .int .i64 r, .int .i64 s, .string i, .int .i64 v, .string g].toArray 43)).alloc (.cells [.int .i64 0, .int .i64 0, .int .i64 0, .string ⟨#[]⟩, .int .i64 0, .string ⟨#[]⟩].toArray 32)).alloc (.cells [.int .i64 0, .int .i64 0, .int .i64 0, .string ⟨#[]⟩, .int .i64 0, .string ⟨#[]⟩].toArray 32))) := (below_two _ _ _).trans ((below_one _ _).mono (by simp; omega))
  go_enter Tryd.func43, Tryd.ntmps43
  go_wp2_with fail
  generalize ((w.alloc (Obj.cells #[Value.int .i64 h, Value.int .i64 r, Value.int .i64 s, Value.string i, Value.int .i64 v, Value.string g] 43)).alloc (Obj.cells #[Value.int .i64 0, Value.int .i64 0, Value.int .i64 0, Value.string ⟨#[]⟩, Value.int .i64 0, Value.string ⟨#[]⟩] 32)).alloc (Obj.cells #[Value.int .i64 0, Value.int .i64 0, Value.int .i64 0, Value.string ⟨#[]⟩, Value.int .i64 0, Value.string ⟨#[]⟩] 32) = w1 at *
  refine (kV _).mono ?_
  rintro e v1 ⟨rfl, b1⟩
  have HX1 : Hid (Blk v1 w.heap.size [.int .i64 h, .int .i64 r, .int .i64 s, .string i, .int .i64 v, .string g] 43) := HX.out.below b1 HX.out.lt
  have HR1 : Hid (Blk v1 (w.heap.size + 1) [.int .i64 0, .int .i64 0, .int .i64 0, .string ⟨#[]⟩, .int .i64 0, .string ⟨#[]⟩] 32) := HR.out.below b1 HR.out.lt
  have HL1 : Hid (Blk v1 (w.heap.size + 2) [.int .i64 0, .int .i64 0, .int .i64 0, .string ⟨#[]⟩, .int .i64 0, .string ⟨#[]⟩] 32) := HL.out.below b1 HL.out.lt
  have HB1 : Hid (Below w.heap.size w v1) := HB.out.trans (b1.mono HB.out.size)
  clear HX HR HL HB b1
  have p1_0 := HL1.out.cell 0 rfl
  have p1_1 := HL1.out.cell 1 rfl
  have p1_2 := HL1.out.cell 2 rfl
  have p1_3 := HL1.out.cell 3 rfl
  have p1_4 := HL1.out.cell 4 rfl
  have f1_0 := fun j => HL1.out.frozen j
  have a1_0 := HX1.out.cell 0 rfl
  have a1_1 := HX1.out.cell 1 rfl
  have a1_2 := HX1.out.cell 2 rfl
  have a1_3 := HX1.out.cell 3 rfl
  have a1_4 := HX1.out.cell 4 rfl
  have a1_5 := HX1.out.cell 5 rfl
  have KX := (((((HX1.out.other 0 (.int .i64 h) (show w.heap.size ≠ w.heap.size + 2 by omega)).other 1 (.int .i64 r) (show w.heap.size ≠ w.heap.size + 2 by omega)).other 2 (.int .i64 s) (show w.heap.size ≠ w.heap.size + 2 by omega)).other 3 (.string i) (show w.heap.size ≠ w.heap.size + 2 by omega)).other 4 (.int .i64 v) (show w.heap.size ≠ w.heap.size + 2 by omega))
  have KR := (((((HR1.out.other 0 (.int .i64 h) (show w.heap.size + 1 ≠ w.heap.size + 2 by omega)).other 1 (.int .i64 r) (show w.heap.size + 1 ≠ w.heap.size + 2 by omega)).other 2 (.int .i64 s) (show w.heap.size + 1 ≠ w.heap.size + 2 by omega)).other 3 (.string i) (show w.heap.size + 1 ≠ w.heap.size + 2 by omega)).other 4 (.int .i64 v) (show w.heap.size + 1 ≠ w.heap.size + 2 by omega))
  have KL := (((((HL1.out.set 0 (.int .i64 h)).set 1 (.int .i64 r)).set 2 (.int .i64 s)).set 3 (.string i)).set 4 (.int .i64 v))
  have KB := (((((HB1.out.setCell (p := ⟨w.heap.size + 2, 0, none⟩) (show w.heap.size ≤ w.heap.size + 2 by omega) (.int .i64 h)).setCell (p := ⟨w.heap.size + 2, 1, none⟩) (show w.heap.size ≤ w.heap.size + 2 by omega) (.int .i64 r)).setCell (p := ⟨w.heap.size + 2, 2, none⟩) (show w.heap.size ≤ w.heap.size + 2 by omega) (.int .i64 s)).setCell (p := ⟨w.heap.size + 2, 3, none⟩) (show w.heap.size ≤ w.heap.size + 2 by omega) (.string i)).setCell (p := ⟨w.heap.size + 2, 4, none⟩) (show w.heap.size ≤ w.heap.size + 2 by omega) (.int .i64 v))
  go_upto_region 3 with fail
  clear p1_0 p1_1 p1_2 p1_3 p1_4 f1_0 a1_0 a1_1 a1_2 a1_3 a1_4 a1_5
  generalize ((((((v1.setCell _ _).setCell _ _).setCell _ _).setCell _ _).setCell _ _) : World) = u110 at *
  have GX110 : Hid (Blk u110 w.heap.size [.int .i64 h, .int .i64 r, .int .i64 s, .string i, .int .i64 v, .string g] 43) := KX
  have GR110 : Hid (Blk u110 (w.heap.size + 1) [.int .i64 0, .int .i64 0, .int .i64 0, .string ⟨#[]⟩, .int .i64 0, .string ⟨#[]⟩] 32) := KR
  have GL110 : Hid (Blk u110 (w.heap.size + 2) [.int .i64 h, .int .i64 r, .int .i64 s, .string i, .int .i64 v, .string ⟨#[]⟩] 32) := KL
  have GB110 : Hid (Below w.heap.size w u110) := KB
  clear KX KR KL KB HX1 HR1 HL1 HB1
  have a110_0 := GX110.out.cell 0 rfl
  have a110_1 := GX110.out.cell 1 rfl
  have a110_2 := GX110.out.cell 2 rfl
  have a110_3 := GX110.out.cell 3 rfl
  have a110_4 := GX110.out.cell 4 rfl
  have a110_5 := GX110.out.cell 5 rfl
  clear a110_0 a110_1 a110_2 a110_3 a110_4 a110_5
  have p1_5 := GL110.out.cell 5 rfl
  have f1_5 := fun j => GL110.out.frozen j
  have a1_0 := GX110.out.cell 0 rfl
  have a1_1 := GX110.out.cell 1 rfl
  have a1_2 := GX110.out.cell 2 rfl
  have a1_3 := GX110.out.cell 3 rfl
  have a1_4 := GX110.out.cell 4 rfl
  have a1_5 := GX110.out.cell 5 rfl
  have KX := (GX110.out.other 5 (.string g) (show w.heap.size ≠ w.heap.size + 2 by omega))
  have KR := (GR110.out.other 5 (.string g) (show w.heap.size + 1 ≠ w.heap.size + 2 by omega))
  have KL := (GL110.out.set 5 (.string g))
  have KB := (GB110.out.setCell (p := ⟨w.heap.size + 2, 5, none⟩) (show w.heap.size ≤ w.heap.size + 2 by omega) (.string g))
  go_upto_region 4 with fail
  clear p1_5 f1_5 a1_0 a1_1 a1_2 a1_3 a1_4 a1_5
  generalize ((u110.setCell _ _) : World) = u9 at *
  have GR : Hid (Blk u9 (w.heap.size + 1) [.int .i64 0, .int .i64 0, .int .i64 0, .string ⟨#[]⟩, .int .i64 0, .string ⟨#[]⟩] 32) := KR
  have GL : Hid (Blk u9 (w.heap.size + 2) [.int .i64 h, .int .i64 r, .int .i64 s, .string i, .int .i64 v, .string g] 32) := KL
  have GB : Hid (Below w.heap.size w u9) := KB
  clear KX KR KL KB GX110 GR110 GL110 GB110
  have l0 := GL.out.cell 0 rfl
  have l1 := GL.out.cell 1 rfl
  have l2 := GL.out.cell 2 rfl
  have l3 := GL.out.cell 3 rfl
  have l4 := GL.out.cell 4 rfl
  have l5 := GL.out.cell 5 rfl
  have p0 := GR.out.cell 0 rfl
  have p1 := GR.out.cell 1 rfl
  have p2 := GR.out.cell 2 rfl
  have p3 := GR.out.cell 3 rfl
  have p4 := GR.out.cell 4 rfl
  have p5 := GR.out.cell 5 rfl
  have pf := fun j => GR.out.frozen j
  have KR := ((((((GR.out.set 0 (.int .i64 h)).set 1 (.int .i64 r)).set 2 (.int .i64 s)).set 3 (.string i)).set 4 (.int .i64 v)).set 5 (.string g))
  have KB := ((((((GB.out.setCell (p := ⟨w.heap.size + 1, 0, none⟩) (show w.heap.size ≤ w.heap.size + 1 by omega) (.int .i64 h)).setCell (p := ⟨w.heap.size + 1, 1, none⟩) (show w.heap.size ≤ w.heap.size + 1 by omega) (.int .i64 r)).setCell (p := ⟨w.heap.size + 1, 2, none⟩) (show w.heap.size ≤ w.heap.size + 1 by omega) (.int .i64 s)).setCell (p := ⟨w.heap.size + 1, 3, none⟩) (show w.heap.size ≤ w.heap.size + 1 by omega) (.string i)).setCell (p := ⟨w.heap.size + 1, 4, none⟩) (show w.heap.size ≤ w.heap.size + 1 by omega) (.int .i64 v)).setCell (p := ⟨w.heap.size + 1, 5, none⟩) (show w.heap.size ≤ w.heap.size + 1 by omega) (.string g))
  go_wp2_with fail
  clear p0 p1 p2 p3 p4 p5 l0 l1 l2 l3 l4 l5 pf
  have y0 := KR.cell 0 rfl
  have y1 := KR.cell 1 rfl
  have y2 := KR.cell 2 rfl
  have y3 := KR.cell 3 rfl
  have y4 := KR.cell 4 rfl
  have y5 := KR.cell 5 rfl
  refine bodyPost_ret (v := .agg #[.int .i64 h, .int .i64 r, .int .i64 s, .string i, .int .i64 v, .string g]) ?_ rfl ⟨rfl, KB⟩
  generalize (((((((u9.setCell _ _).setCell _ _).setCell _ _).setCell _ _).setCell _ _).setCell _ _) : World) = W at *
  clear KB KR
  simp [results, Tryd.results43, go_sem, y0, y1, y2, y3, y4, y5]
set_option maxHeartbeats 3200000 in
set_option maxRecDepth 100000 in
theorem to_ev (a b : Sv) (w : World) :
    Calls Tryd.prog 20 #[eV a b] w fun e w' => e = .returned (eV a b) ∧ Below w.heap.size w w' := by
  have kA := fun W => to_sv a W
  have kB := fun W => to_sv b W
  obtain ⟨⟨h, r, s, i, v⟩, g⟩ := a
  obtain ⟨⟨h', r', s', i', v'⟩, g'⟩ := b
  unfold eV
  unfold yV at kA kB
  simp only at kA kB ⊢
  have HX : Hid (Blk (((w.alloc (.cells [.int .i64 h, .int .i64 r, .int .i64 s, .string i, .int .i64 v, .string g, .int .i64 h', .int .i64 r', .int .i64 s', .string i', .int .i64 v', .string g'].toArray 45)).alloc (.cells [.int .i64 0, .int .i64 0, .int .i64 0, .string ⟨#[]⟩, .int .i64 0, .string ⟨#[]⟩, .int .i64 0, .int .i64 0, .int .i64 0, .string ⟨#[]⟩, .int .i64 0, .string ⟨#[]⟩].toArray 34)).alloc (.cells [.int .i64 0, .int .i64 0, .int .i64 0, .string ⟨#[]⟩, .int .i64 0, .string ⟨#[]⟩, .int .i64 0, .int .i64 0, .int .i64 0, .string ⟨#[]⟩, .int .i64 0, .string ⟨#[]⟩].toArray 34)) w.heap.size [.int .i64 h, .int .i64 r, .int .i64 s, .string i, .int .i64 v, .string g, .int .i64 h', .int .i64 r', .int .i64 s', .string i', .int .i64 v', .string g'] 45) := ((blk_new w _ _).alloc _).alloc _
  have HR : Hid (Blk (((w.alloc (.cells [.int .i64 h, .int .i64 r, .int .i64 s, .string i, .int .i64 v, .string g, .int .i64 h', .int .i64 r', .int .i64 s', .string i', .int .i64 v', .string g'].toArray 45)).alloc (.cells [.int .i64 0, .int .i64 0, .int .i64 0, .string ⟨#[]⟩, .int .i64 0, .string ⟨#[]⟩, .int .i64 0, .int .i64 0, .int .i64 0, .string ⟨#[]⟩, .int .i64 0, .string ⟨#[]⟩].toArray 34)).alloc (.cells [.int .i64 0, .int .i64 0, .int .i64 0, .string ⟨#[]⟩, .int .i64 0, .string ⟨#[]⟩, .int .i64 0, .int .i64 0, .int .i64 0, .string ⟨#[]⟩, .int .i64 0, .string ⟨#[]⟩].toArray 34)) (w.heap.size + 1) [.int .i64 0, .int .i64 0, .int .i64 0, .string ⟨#[]⟩, .int .i64 0, .string ⟨#[]⟩, .int .i64 0, .int .i64 0, .int .i64 0, .string ⟨#[]⟩, .int .i64 0, .string ⟨#[]⟩] 34) := by
    have h1 := blk_new (w.alloc (.cells [.int .i64 h, .int .i64 r, .int .i64 s, .string i, .int .i64 v, .string g, .int .i64 h', .int .i64 r', .int .i64 s', .string i', .int .i64 v', .string g'].toArray 45)) [.int .i64 0, .int .i64 0, .int .i64 0, .string ⟨#[]⟩, .int .i64 0, .string ⟨#[]⟩, .int .i64 0, .int .i64 0, .int .i64 0, .string ⟨#[]⟩, .int .i64 0, .string ⟨#[]⟩] 34
    have e : (w.alloc (.cells [.int .i64 h, .int .i64 r, .int .i64 s, .string i, .int .i64 v, .string g, .int .i64 h', .int .i64 r', .int .i64 s', .string i', .int .i64 v', .string g'].toArray 45)).heap.size = w.heap.size + 1 := by simp
    rw [e] at h1; exact h1.alloc _
  have HL : Hid (Blk (((w.alloc (.cells [.int .i64 h, .int .i64 r, .int .i64 s, .string i, .int .i64 v, .string g, .int .i64 h', .int .i64 r', .int .i64 s', .string i', .int .i64 v', .string g'].toArray 45)).alloc (.cells [.int .i64 0, .int .i64 0, .int .i64 0, .string ⟨#[]⟩, .int .i64 0, .string ⟨#[]⟩, .int .i64 0, .int .i64 0, .int .i64 0, .string ⟨#[]⟩, .int .i64 0, .string ⟨#[]⟩].toArray 34)).alloc (.cells [.int .i64 0, .int .i64 0, .int .i64 0, .string ⟨#[]⟩, .int .i64 0, .string ⟨#[]⟩, .int .i64 0, .int .i64 0, .int .i64 0, .string ⟨#[]⟩, .int .i64 0, .string ⟨#[]⟩].toArray 34)) (w.heap.size + 2) [.int .i64 0, .int .i64 0, .int .i64 0, .string ⟨#[]⟩, .int .i64 0, .string ⟨#[]⟩, .int .i64 0, .int .i64 0, .int .i64 0, .string ⟨#[]⟩, .int .i64 0, .string ⟨#[]⟩] 34) := by
    have h1 := blk_new ((w.alloc (.cells [.int .i64 h, .int .i64 r, .int .i64 s, .string i, .int .i64 v, .string g, .int .i64 h', .int .i64 r', .int .i64 s', .string i', .int .i64 v', .string g'].toArray 45)).alloc (.cells [.int .i64 0, .int .i64 0, .int .i64 0, .string ⟨#[]⟩, .int .i64 0, .string ⟨#[]⟩, .int .i64 0, .int .i64 0, .int .i64 0, .string ⟨#[]⟩, .int .i64 0, .string ⟨#[]⟩].toArray 34)) [.int .i64 0, .int .i64 0, .int .i64 0, .string ⟨#[]⟩, .int .i64 0, .string ⟨#[]⟩, .int .i64 0, .int .i64 0, .int .i64 0, .string ⟨#[]⟩, .int .i64 0, .string ⟨#[]⟩] 34
    have e : ((w.alloc (.cells [.int .i64 h, .int .i64 r, .int .i64 s, .string i, .int .i64 v, .string g, .int .i64 h', .int .i64 r', .int .i64 s', .string i', .int .i64 v', .string g'].toArray 45)).alloc (.cells [.int .i64 0, .int .i64 0, .int .i64 0, .string ⟨#[]⟩, .int .i64 0, .string ⟨#[]⟩, .int .i64 0, .int .i64 0, .int .i64 0, .string ⟨#[]⟩, .int .i64 0, .string ⟨#[]⟩].toArray 34)).heap.size = w.heap.size + 2 := by simp
    rw [e] at h1; exact h1
  have HB : Hid (Below w.heap.size w (((w.alloc (.cells [.int .i64 h, .int .i64 r, .int .i64 s, .string i, .int .i64 v, .string g, .int .i64 h', .int .i64 r', .int .i64 s', .string i', .int .i64 v', .string g'].toArray 45)).alloc (.cells [.int .i64 0, .int .i64 0, .int .i64 0, .string ⟨#[]⟩, .int .i64 0, .string ⟨#[]⟩, .int .i64 0, .int .i64 0, .int .i64 0, .string ⟨#[]⟩, .int .i64 0, .string ⟨#[]⟩].toArray 34)).alloc (.cells [.int .i64 0, .int .i64 0, .int .i64 0, .string ⟨#[]⟩, .int .i64 0, .string ⟨#[]⟩, .int .i64 0, .int .i64 0, .int .i64 0, .string ⟨#[]⟩, .int .i64 0, .string ⟨#[]⟩].toArray 34))) := (below_two _ _ _).trans ((below_one _ _).mono (by simp; omega))
  go_enter Tryd.func20, Tryd.ntmps20
  go_wp2_with fail
  generalize ((w.alloc (Obj.cells #[Value.int .i64 h, Value.int .i64 r, Value.int .i64 s, Value.string i, Value.int .i64 v, Value.string g, Value.int .i64 h', Value.int .i64 r', Value.int .i64 s', Value.string i', Value.int .i64 v', Value.string g'] 45)).alloc (Obj.cells #[Value.int .i64 0, Value.int .i64 0, Value.int .i64 0, Value.string ⟨#[]⟩, Value.int .i64 0, Value.string ⟨#[]⟩, Value.int .i64 0, Value.int .i64 0, Value.int .i64 0, Value.string ⟨#[]⟩, Value.int .i64 0, Value.string ⟨#[]⟩] 34)).alloc (Obj.cells #[Value.int .i64 0, Value.int .i64 0, Value.int .i64 0, Value.string ⟨#[]⟩, Value.int .i64 0, Value.string ⟨#[]⟩, Value.int .i64 0, Value.int .i64 0, Value.int .i64 0, Value.string ⟨#[]⟩, Value.int .i64 0, Value.string ⟨#[]⟩] 34) = w1 at *
  refine (kA _).mono ?_
  rintro e v1 ⟨rfl, b1⟩
  have HX1 : Hid (Blk v1 w.heap.size [.int .i64 h, .int .i64 r, .int .i64 s, .string i, .int .i64 v, .string g, .int .i64 h', .int .i64 r', .int .i64 s', .string i', .int .i64 v', .string g'] 45) := HX.out.below b1 HX.out.lt
  have HR1 : Hid (Blk v1 (w.heap.size + 1) [.int .i64 0, .int .i64 0, .int .i64 0, .string ⟨#[]⟩, .int .i64 0, .string ⟨#[]⟩, .int .i64 0, .int .i64 0, .int .i64 0, .string ⟨#[]⟩, .int .i64 0, .string ⟨#[]⟩] 34) := HR.out.below b1 HR.out.lt
  have HL1 : Hid (Blk v1 (w.heap.size + 2) [.int .i64 0, .int .i64 0, .int .i64 0, .string ⟨#[]⟩, .int .i64 0, .string ⟨#[]⟩, .int .i64 0, .int .i64 0, .int .i64 0, .string ⟨#[]⟩, .int .i64 0, .string ⟨#[]⟩] 34) := HL.out.below b1 HL.out.lt
  have HB1 : Hid (Below w.heap.size w v1) := HB.out.trans (b1.mono HB.out.size)
  clear HX HR HL HB b1
  have p1_0 := HL1.out.cell 0 rfl
  have p1_1 := HL1.out.cell 1 rfl
  have p1_2 := HL1.out.cell 2 rfl
  have p1_3 := HL1.out.cell 3 rfl
  have p1_4 := HL1.out.cell 4 rfl
  have p1_5 := HL1.out.cell 5 rfl
  have f1_0 := fun j => HL1.out.frozen j
  have a1_0 := HX1.out.cell 0 rfl
  have a1_1 := HX1.out.cell 1 rfl
  have a1_2 := HX1.out.cell 2 rfl
  have a1_3 := HX1.out.cell 3 rfl
  have a1_4 := HX1.out.cell 4 rfl
  have a1_5 := HX1.out.cell 5 rfl
  have a1_6 := HX1.out.cell 6 rfl
  have a1_7 := HX1.out.cell 7 rfl
  have a1_8 := HX1.out.cell 8 rfl
  have a1_9 := HX1.out.cell 9 rfl
  have a1_10 := HX1.out.cell 10 rfl
  have a1_11 := HX1.out.cell 11 rfl
  have KX := ((((((HX1.out.other 0 (.int .i64 h) (show w.heap.size ≠ w.heap.size + 2 by omega)).other 1 (.int .i64 r) (show w.heap.size ≠ w.heap.size + 2 by omega)).other 2 (.int .i64 s) (show w.heap.size ≠ w.heap.size + 2 by omega)).other 3 (.string i) (show w.heap.size ≠ w.heap.size + 2 by omega)).other 4 (.int .i64 v) (show w.heap.size ≠ w.heap.size + 2 by omega)).other 5 (.string g) (show w.heap.size ≠ w.heap.size + 2 by omega))
  have KR := ((((((HR1.out.other 0 (.int .i64 h) (show w.heap.size + 1 ≠ w.heap.size + 2 by omega)).other 1 (.int .i64 r) (show w.heap.size + 1 ≠ w.heap.size + 2 by omega)).other 2 (.int .i64 s) (show w.heap.size + 1 ≠ w.heap.size + 2 by omega)).other 3 (.string i) (show w.heap.size + 1 ≠ w.heap.size + 2 by omega)).other 4 (.int .i64 v) (show w.heap.size + 1 ≠ w.heap.size + 2 by omega)).other 5 (.string g) (show w.heap.size + 1 ≠ w.heap.size + 2 by omega))
  have KL := ((((((HL1.out.set 0 (.int .i64 h)).set 1 (.int .i64 r)).set 2 (.int .i64 s)).set 3 (.string i)).set 4 (.int .i64 v)).set 5 (.string g))
  have KB := ((((((HB1.out.setCell (p := ⟨w.heap.size + 2, 0, none⟩) (show w.heap.size ≤ w.heap.size + 2 by omega) (.int .i64 h)).setCell (p := ⟨w.heap.size + 2, 1, none⟩) (show w.heap.size ≤ w.heap.size + 2 by omega) (.int .i64 r)).setCell (p := ⟨w.heap.size + 2, 2, none⟩) (show w.heap.size ≤ w.heap.size + 2 by omega) (.int .i64 s)).setCell (p := ⟨w.heap.size + 2, 3, none⟩) (show w.heap.size ≤ w.heap.size + 2 by omega) (.string i)).setCell (p := ⟨w.heap.size + 2, 4, none⟩) (show w.heap.size ≤ w.heap.size + 2 by omega) (.int .i64 v)).setCell (p := ⟨w.heap.size + 2, 5, none⟩) (show w.heap.size ≤ w.heap.size + 2 by omega) (.string g))
  go_upto_region 3 with fail
  clear p1_0 p1_1 p1_2 p1_3 p1_4 p1_5 f1_0 a1_0 a1_1 a1_2 a1_3 a1_4 a1_5 a1_6 a1_7 a1_8 a1_9 a1_10 a1_11
  generalize (((((((v1.setCell _ _).setCell _ _).setCell _ _).setCell _ _).setCell _ _).setCell _ _) : World) = u110 at *
  have GX110 : Hid (Blk u110 w.heap.size [.int .i64 h, .int .i64 r, .int .i64 s, .string i, .int .i64 v, .string g, .int .i64 h', .int .i64 r', .int .i64 s', .string i', .int .i64 v', .string g'] 45) := KX
  have GR110 : Hid (Blk u110 (w.heap.size + 1) [.int .i64 0, .int .i64 0, .int .i64 0, .string ⟨#[]⟩, .int .i64 0, .string ⟨#[]⟩, .int .i64 0, .int .i64 0, .int .i64 0, .string ⟨#[]⟩, .int .i64 0, .string ⟨#[]⟩] 34) := KR
  have GL110 : Hid (Blk u110 (w.heap.size + 2) [.int .i64 h, .int .i64 r, .int .i64 s, .string i, .int .i64 v, .string g, .int .i64 0, .int .i64 0, .int .i64 0, .string ⟨#[]⟩, .int .i64 0, .string ⟨#[]⟩] 34) := KL
  have GB110 : Hid (Below w.heap.size w u110) := KB
  clear KX KR KL KB HX1 HR1 HL1 HB1
  have a110_0 := GX110.out.cell 0 rfl
  have a110_1 := GX110.out.cell 1 rfl
  have a110_2 := GX110.out.cell 2 rfl
  have a110_3 := GX110.out.cell 3 rfl
  have a110_4 := GX110.out.cell 4 rfl
  have a110_5 := GX110.out.cell 5 rfl
  have a110_6 := GX110.out.cell 6 rfl
  have a110_7 := GX110.out.cell 7 rfl
  have a110_8 := GX110.out.cell 8 rfl
  have a110_9 := GX110.out.cell 9 rfl
  have a110_10 := GX110.out.cell 10 rfl
  have a110_11 := GX110.out.cell 11 rfl
  go_wp2_with fail
  clear a110_0 a110_1 a110_2 a110_3 a110_4 a110_5 a110_6 a110_7 a110_8 a110_9 a110_10 a110_11
  refine (kB _).mono ?_
  rintro e v2 ⟨rfl, b2⟩
  have HX2 : Hid (Blk v2 w.heap.size [.int .i64 h, .int .i64 r, .int .i64 s, .string i, .int .i64 v, .string g, .int .i64 h', .int .i64 r', .int .i64 s', .string i', .int .i64 v', .string g'] 45) := GX110.out.below b2 GX110.out.lt
  have HR2 : Hid (Blk v2 (w.heap.size + 1) [.int .i64 0, .int .i64 0, .int .i64 0, .string ⟨#[]⟩, .int .i64 0, .string ⟨#[]⟩, .int .i64 0, .int .i64 0, .int .i64 0, .string ⟨#[]⟩, .int .i64 0, .string ⟨#[]⟩] 34) := GR110.out.below b2 GR110.out.lt
  have HL2 : Hid (Blk v2 (w.heap.size + 2) [.int .i64 h, .int .i64 r, .int .i64 s, .string i, .int .i64 v, .string g, .int .i64 0, .int .i64 0, .int .i64 0, .string ⟨#[]⟩, .int .i64 0, .string ⟨#[]⟩] 34) := GL110.out.below b2 GL110.out.lt
  have HB2 : Hid (Below w.heap.size w v2) := GB110.out.trans (b2.mono GB110.out.size)
  clear GX110 GR110 GL110 GB110 b2
  have p2_6 := HL2.out.cell 6 rfl
  have p2_7 := HL2.out.cell 7 rfl
  have p2_8 := HL2.out.cell 8 rfl
  have p2_9 := HL2.out.cell 9 rfl
  have p2_10 := HL2.out.cell 10 rfl
  have p2_11 := HL2.out.cell 11 rfl
  have f2_6 := fun j => HL2.out.frozen j
  have a2_0 := HX2.out.cell 0 rfl
  have a2_1 := HX2.out.cell 1 rfl
  have a2_2 := HX2.out.cell 2 rfl
  have a2_3 := HX2.out.cell 3 rfl
  have a2_4 := HX2.out.cell 4 rfl
  have a2_5 := HX2.out.cell 5 rfl
  have a2_6 := HX2.out.cell 6 rfl
  have a2_7 := HX2.out.cell 7 rfl
  have a2_8 := HX2.out.cell 8 rfl
  have a2_9 := HX2.out.cell 9 rfl
  have a2_10 := HX2.out.cell 10 rfl
  have a2_11 := HX2.out.cell 11 rfl
  have KX := ((((((HX2.out.other 6 (.int .i64 h') (show w.heap.size ≠ w.heap.size + 2 by omega)).other 7 (.int .i64 r') (show w.heap.size ≠ w.heap.size + 2 by omega)).other 8 (.int .i64 s') (show w.heap.size ≠ w.heap.size + 2 by omega)).other 9 (.string i') (show w.heap.size ≠ w.heap.size + 2 by omega)).other 10 (.int .i64 v') (show w.heap.size ≠ w.heap.size + 2 by omega)).other 11 (.string g') (show w.heap.size ≠ w.heap.size + 2 by omega))
  have KR := ((((((HR2.out.other 6 (.int .i64 h') (show w.heap.size + 1 ≠ w.heap.size + 2 by omega)).other 7 (.int .i64 r') (show w.heap.size + 1 ≠ w.heap.size + 2 by omega)).other 8 (.int .i64 s') (show w.heap.size + 1 ≠ w.heap.size + 2 by omega)).other 9 (.string i') (show w.heap.size + 1 ≠ w.heap.size + 2 by omega)).other 10 (.int .i64 v') (show w.heap.size + 1 ≠ w.heap.size + 2 by omega)).other 11 (.string g') (show w.heap.size + 1 ≠ w.heap.size + 2 by omega))
  have KL := ((((((HL2.out.set 6 (.int .i64 h')).set 7 (.int .i64 r')).set 8 (.int .i64 s')).set 9 (.string i')).set 10 (.int .i64 v')).set 11 (.string g'))
  have KB := ((((((HB2.out.setCell (p := ⟨w.heap.size + 2, 6, none⟩) (show w.heap.size ≤ w.heap.size + 2 by omega) (.int .i64 h')).setCell (p := ⟨w.heap.size + 2, 7, none⟩) (show w.heap.size ≤ w.heap.size + 2 by omega) (.int .i64 r')).setCell (p := ⟨w.heap.size + 2, 8, none⟩) (show w.heap.size ≤ w.heap.size + 2 by omega) (.int .i64 s')).setCell (p := ⟨w.heap.size + 2, 9, none⟩) (show w.heap.size ≤ w.heap.size + 2 by omega) (.string i')).setCell (p := ⟨w.heap.size + 2, 10, none⟩) (show w.heap.size ≤ w.heap.size + 2 by omega) (.int .i64 v')).setCell (p := ⟨w.heap.size + 2, 11, none⟩) (show w.heap.size ≤ w.heap.size + 2 by omega) (.string g'))
  go_upto_region 4 with fail
  clear p2_6 p2_7 p2_8 p2_9 p2_10 p2_11 f2_6 a2_0 a2_1 a2_2 a2_3 a2_4 a2_5 a2_6 a2_7 a2_8 a2_9 a2_10 a2_11
  generalize (((((((v2.setCell _ _).setCell _ _).setCell _ _).setCell _ _).setCell _ _).setCell _ _) : World) = u9 at *
  have GR : Hid (Blk u9 (w.heap.size + 1) [.int .i64 0, .int .i64 0, .int .i64 0, .string ⟨#[]⟩, .int .i64 0, .string ⟨#[]⟩, .int .i64 0, .int .i64 0, .int .i64 0, .string ⟨#[]⟩, .int .i64 0, .string ⟨#[]⟩] 34) := KR
  have GL : Hid (Blk u9 (w.heap.size + 2) [.int .i64 h, .int .i64 r, .int .i64 s, .string i, .int .i64 v, .string g, .int .i64 h', .int .i64 r', .int .i64 s', .string i', .int .i64 v', .string g'] 34) := KL
  have GB : Hid (Below w.heap.size w u9) := KB
  clear KX KR KL KB HX2 HR2 HL2 HB2
  have l0 := GL.out.cell 0 rfl
  have l1 := GL.out.cell 1 rfl
  have l2 := GL.out.cell 2 rfl
  have l3 := GL.out.cell 3 rfl
  have l4 := GL.out.cell 4 rfl
  have l5 := GL.out.cell 5 rfl
  have l6 := GL.out.cell 6 rfl
  have l7 := GL.out.cell 7 rfl
  have l8 := GL.out.cell 8 rfl
  have l9 := GL.out.cell 9 rfl
  have l10 := GL.out.cell 10 rfl
  have l11 := GL.out.cell 11 rfl
  have p0 := GR.out.cell 0 rfl
  have p1 := GR.out.cell 1 rfl
  have p2 := GR.out.cell 2 rfl
  have p3 := GR.out.cell 3 rfl
  have p4 := GR.out.cell 4 rfl
  have p5 := GR.out.cell 5 rfl
  have p6 := GR.out.cell 6 rfl
  have p7 := GR.out.cell 7 rfl
  have p8 := GR.out.cell 8 rfl
  have p9 := GR.out.cell 9 rfl
  have p10 := GR.out.cell 10 rfl
  have p11 := GR.out.cell 11 rfl
  have pf := fun j => GR.out.frozen j
  have KR := ((((((((((((GR.out.set 0 (.int .i64 h)).set 1 (.int .i64 r)).set 2 (.int .i64 s)).set 3 (.string i)).set 4 (.int .i64 v)).set 5 (.string g)).set 6 (.int .i64 h')).set 7 (.int .i64 r')).set 8 (.int .i64 s')).set 9 (.string i')).set 10 (.int .i64 v')).set 11 (.string g'))
  have KB := ((((((((((((GB.out.setCell (p := ⟨w.heap.size + 1, 0, none⟩) (show w.heap.size ≤ w.heap.size + 1 by omega) (.int .i64 h)).setCell (p := ⟨w.heap.size + 1, 1, none⟩) (show w.heap.size ≤ w.heap.size + 1 by omega) (.int .i64 r)).setCell (p := ⟨w.heap.size + 1, 2, none⟩) (show w.heap.size ≤ w.heap.size + 1 by omega) (.int .i64 s)).setCell (p := ⟨w.heap.size + 1, 3, none⟩) (show w.heap.size ≤ w.heap.size + 1 by omega) (.string i)).setCell (p := ⟨w.heap.size + 1, 4, none⟩) (show w.heap.size ≤ w.heap.size + 1 by omega) (.int .i64 v)).setCell (p := ⟨w.heap.size + 1, 5, none⟩) (show w.heap.size ≤ w.heap.size + 1 by omega) (.string g)).setCell (p := ⟨w.heap.size + 1, 6, none⟩) (show w.heap.size ≤ w.heap.size + 1 by omega) (.int .i64 h')).setCell (p := ⟨w.heap.size + 1, 7, none⟩) (show w.heap.size ≤ w.heap.size + 1 by omega) (.int .i64 r')).setCell (p := ⟨w.heap.size + 1, 8, none⟩) (show w.heap.size ≤ w.heap.size + 1 by omega) (.int .i64 s')).setCell (p := ⟨w.heap.size + 1, 9, none⟩) (show w.heap.size ≤ w.heap.size + 1 by omega) (.string i')).setCell (p := ⟨w.heap.size + 1, 10, none⟩) (show w.heap.size ≤ w.heap.size + 1 by omega) (.int .i64 v')).setCell (p := ⟨w.heap.size + 1, 11, none⟩) (show w.heap.size ≤ w.heap.size + 1 by omega) (.string g'))
  go_wp2_with fail
  clear p0 p1 p2 p3 p4 p5 p6 p7 p8 p9 p10 p11 l0 l1 l2 l3 l4 l5 l6 l7 l8 l9 l10 l11 pf
  have y0 := KR.cell 0 rfl
  have y1 := KR.cell 1 rfl
  have y2 := KR.cell 2 rfl
  have y3 := KR.cell 3 rfl
  have y4 := KR.cell 4 rfl
  have y5 := KR.cell 5 rfl
  have y6 := KR.cell 6 rfl
  have y7 := KR.cell 7 rfl
  have y8 := KR.cell 8 rfl
  have y9 := KR.cell 9 rfl
  have y10 := KR.cell 10 rfl
  have y11 := KR.cell 11 rfl
  refine bodyPost_ret (v := .agg #[.int .i64 h, .int .i64 r, .int .i64 s, .string i, .int .i64 v, .string g, .int .i64 h', .int .i64 r', .int .i64 s', .string i', .int .i64 v', .string g']) ?_ rfl ⟨rfl, KB⟩
  generalize (((((((((((((u9.setCell _ _).setCell _ _).setCell _ _).setCell _ _).setCell _ _).setCell _ _).setCell _ _).setCell _ _).setCell _ _).setCell _ _).setCell _ _).setCell _ _) : World) = W at *
  clear KB KR
  simp [results, Tryd.results20, go_sem, y0, y1, y2, y3, y4, y5, y6, y7, y8, y9, y10, y11]
set_option maxHeartbeats 800000 in
set_option maxRecDepth 100000 in
theorem eq_vt (x : Vt) (w : World) :
    Calls Tryd.prog 62 #[tV x, tV x] w fun e w' => e = .returned (.bool true) ∧ Below w.heap.size w w' := by
  obtain ⟨h, r, s, i, v⟩ := x
  unfold tV
  simp only
  go_enter Tryd.func62, Tryd.ntmps62
  go_wp2
  go_ret
  exact ⟨rfl, below_two _ _ _⟩
set_option maxHeartbeats 800000 in
set_option maxRecDepth 100000 in
theorem eq_sv (y : Sv) (w : World) :
    Calls Tryd.prog 44 #[yV y, yV y] w fun e w' => e = .returned (.bool true) ∧ Below w.heap.size w w' := by
  have kV := fun W => eq_vt y.x W
  obtain ⟨⟨h, r, s, i, v⟩, g⟩ := y
  unfold yV
  unfold tV at kV
  simp only at kV ⊢
  have HX : Hid (Blk ((w.alloc (.cells [.int .i64 h, .int .i64 r, .int .i64 s, .string i, .int .i64 v, .string g].toArray 32)).alloc (.cells [.int .i64 h, .int .i64 r, .int .i64 s, .string i, .int .i64 v, .string g].toArray 32)) w.heap.size [.int .i64 h, .int .i64 r, .int .i64 s, .string i, .int .i64 v, .string g] 32) := (blk_new w _ _).alloc _
  have HY : Hid (Blk ((w.alloc (.cells [.int .i64 h, .int .i64 r, .int .i64 s, .string i, .int .i64 v, .string g].toArray 32)).alloc (.cells [.int .i64 h, .int .i64 r, .int .i64 s, .string i, .int .i64 v, .string g].toArray 32)) (w.heap.size + 1) [.int .i64 h, .int .i64 r, .int .i64 s, .string i, .int .i64 v, .string g] 32) := by
    have h1 := blk_new (w.alloc (.cells [.int .i64 h, .int .i64 r, .int .i64 s, .string i, .int .i64 v, .string g].toArray 32)) [.int .i64 h, .int .i64 r, .int .i64 s, .string i, .int .i64 v, .string g] 32
    have e : (w.alloc (.cells [.int .i64 h, .int .i64 r, .int .i64 s, .string i, .int .i64 v, .string g].toArray 32)).heap.size = w.heap.size + 1 := by simp
    rw [e] at h1; exact h1
  have HB : Hid (Below w.heap.size w ((w.alloc (.cells [.int .i64 h, .int .i64 r, .int .i64 s, .string i, .int .i64 v, .string g].toArray 32)).alloc (.cells [.int .i64 h, .int .i64 r, .int .i64 s, .string i, .int .i64 v, .string g].toArray 32))) := below_two _ _ _
  go_enter Tryd.func44, Tryd.ntmps44
  go_wp2_with fail
  generalize (w.alloc (Obj.cells #[.int .i64 h, .int .i64 r, .int .i64 s, .string i, .int .i64 v, .string g] 32)).alloc (Obj.cells #[.int .i64 h, .int .i64 r, .int .i64 s, .string i, .int .i64 v, .string g] 32) = w1 at *
  refine (kV _).mono ?_
  rintro e w2 ⟨rfl, b2⟩
  have HX2 := HX.out.below b2 HX.out.lt
  have HY2 := HY.out.below b2 HY.out.lt
  have HB2 : Hid (Below w.heap.size w w2) := HB.out.trans (b2.mono HB.out.size)
  have x5 := HX2.cell 5 rfl
  have y5 := HY2.cell 5 rfl
  go_wp2
  go_ret
  exact ⟨rfl, HB2.out⟩
set_option maxHeartbeats 1600000 in
set_option maxRecDepth 100000 in
theorem eq_ev (a b : Sv) (w : World) :
    Calls Tryd.prog 30 #[eV a b, eV a b] w fun e w' => e = .returned (.bool true) ∧ Below w.heap.size w w' := by
  have kA := fun W => eq_sv a W
  have kB := fun W => eq_sv b W
  obtain ⟨⟨h, r, s, i, v⟩, g⟩ := a
  obtain ⟨⟨h', r', s', i', v'⟩, g'⟩ := b
  unfold eV
  unfold yV at kA kB
  simp only at kA kB ⊢
  have HX : Hid (Blk ((w.alloc (.cells [.int .i64 h, .int .i64 r, .int .i64 s, .string i, .int .i64 v, .string g, .int .i64 h', .int .i64 r', .int .i64 s', .string i', .int .i64 v', .string g'].toArray 34)).alloc (.cells [.int .i64 h, .int .i64 r, .int .i64 s, .string i, .int .i64 v, .string g, .int .i64 h', .int .i64 r', .int .i64 s', .string i', .int .i64 v', .string g'].toArray 34)) w.heap.size [.int .i64 h, .int .i64 r, .int .i64 s, .string i, .int .i64 v, .string g, .int .i64 h', .int .i64 r', .int .i64 s', .string i', .int .i64 v', .string g'] 34) := (blk_new w _ _).alloc _
  have HY : Hid (Blk ((w.alloc (.cells [.int .i64 h, .int .i64 r, .int .i64 s, .string i, .int .i64 v, .string g, .int .i64 h', .int .i64 r', .int .i64 s', .string i', .int .i64 v', .string g'].toArray 34)).alloc (.cells [.int .i64 h, .int .i64 r, .int .i64 s, .string i, .int .i64 v, .string g, .int .i64 h', .int .i64 r', .int .i64 s', .string i', .int .i64 v', .string g'].toArray 34)) (w.heap.size + 1) [.int .i64 h, .int .i64 r, .int .i64 s, .string i, .int .i64 v, .string g, .int .i64 h', .int .i64 r', .int .i64 s', .string i', .int .i64 v', .string g'] 34) := by
    have h1 := blk_new (w.alloc (.cells [.int .i64 h, .int .i64 r, .int .i64 s, .string i, .int .i64 v, .string g, .int .i64 h', .int .i64 r', .int .i64 s', .string i', .int .i64 v', .string g'].toArray 34)) [.int .i64 h, .int .i64 r, .int .i64 s, .string i, .int .i64 v, .string g, .int .i64 h', .int .i64 r', .int .i64 s', .string i', .int .i64 v', .string g'] 34
    have e : (w.alloc (.cells [.int .i64 h, .int .i64 r, .int .i64 s, .string i, .int .i64 v, .string g, .int .i64 h', .int .i64 r', .int .i64 s', .string i', .int .i64 v', .string g'].toArray 34)).heap.size = w.heap.size + 1 := by simp
    rw [e] at h1; exact h1
  have HB : Hid (Below w.heap.size w ((w.alloc (.cells [.int .i64 h, .int .i64 r, .int .i64 s, .string i, .int .i64 v, .string g, .int .i64 h', .int .i64 r', .int .i64 s', .string i', .int .i64 v', .string g'].toArray 34)).alloc (.cells [.int .i64 h, .int .i64 r, .int .i64 s, .string i, .int .i64 v, .string g, .int .i64 h', .int .i64 r', .int .i64 s', .string i', .int .i64 v', .string g'].toArray 34))) := below_two _ _ _
  go_enter Tryd.func30, Tryd.ntmps30
  go_wp2_with fail
  generalize (w.alloc (Obj.cells #[.int .i64 h, .int .i64 r, .int .i64 s, .string i, .int .i64 v, .string g, .int .i64 h', .int .i64 r', .int .i64 s', .string i', .int .i64 v', .string g'] 34)).alloc (Obj.cells #[.int .i64 h, .int .i64 r, .int .i64 s, .string i, .int .i64 v, .string g, .int .i64 h', .int .i64 r', .int .i64 s', .string i', .int .i64 v', .string g'] 34) = w1 at *
  refine (kA _).mono ?_
  rintro e w2 ⟨rfl, b2⟩
  have HX2 : Hid (Blk w2 w.heap.size [.int .i64 h, .int .i64 r, .int .i64 s, .string i, .int .i64 v, .string g, .int .i64 h', .int .i64 r', .int .i64 s', .string i', .int .i64 v', .string g'] 34) := HX.out.below b2 HX.out.lt
  have HY2 : Hid (Blk w2 (w.heap.size + 1) [.int .i64 h, .int .i64 r, .int .i64 s, .string i, .int .i64 v, .string g, .int .i64 h', .int .i64 r', .int .i64 s', .string i', .int .i64 v', .string g'] 34) := HY.out.below b2 HY.out.lt
  have HB2 : Hid (Below w.heap.size w w2) := HB.out.trans (b2.mono HB.out.size)
  clear HX HY HB b2
  have x6 := HX2.out.cell 6 rfl
  have x7 := HX2.out.cell 7 rfl
  have x8 := HX2.out.cell 8 rfl
  have x9 := HX2.out.cell 9 rfl
  have x10 := HX2.out.cell 10 rfl
  have x11 := HX2.out.cell 11 rfl
  have y6 := HY2.out.cell 6 rfl
  have y7 := HY2.out.cell 7 rfl
  have y8 := HY2.out.cell 8 rfl
  have y9 := HY2.out.cell 9 rfl
  have y10 := HY2.out.cell 10 rfl
  have y11 := HY2.out.cell 11 rfl
  go_wp2_with fail
  refine (kB _).mono ?_
  rintro e w3 ⟨rfl, b3⟩
  have HB3 : Hid (Below w.heap.size w w3) := HB2.out.trans (b3.mono HB2.out.size)
  go_wp2
  go_ret
  exact ⟨rfl, HB3.out⟩
end Go.Proofs.YtclajbadeclbdaaDoor
