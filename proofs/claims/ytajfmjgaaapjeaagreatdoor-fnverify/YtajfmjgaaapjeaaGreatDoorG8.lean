/- A header's six cells in a block of its own, kept. Conditions: none of ours. What spec.l6Piece answers; old memory stays. Conditions: texts of at most 2 to the 40 bytes. What spec.l6Piece and spec.ShowHeader answer; old memory stays. Conditions: texts of at most 2 to the 40 bytes. A step of a drawn region: a text's bytes appended to a row that is owned. Conditions: none of ours. -/
import Derived.Test.YtajfmjgaaapjeaaGreatDoorG9
import Derived.Test.YtajfmjgaaapjeaaGreatDoorG4
import Derived.Test.YtajfmjgaaapjeaaGreatDoorVar
import Derived.Test.YtajfmjgaaapjeaaGreatDoorG2
import Derived.Lib.AppendStr
import Derived.Deep.RegionLaw
namespace Go.Proofs.YtajfmjgaaapjeaaGreatDoor
open Go.RowKit
open Num
set_option linter.unusedVariables false
def Six (W : World) (g : Nat) (x : H) : Prop := W.cell? ⟨g, 0, none⟩ = some (.int .i64 x.h) ∧ W.cell? ⟨g, 1, none⟩ = some (.int .i64 x.t) ∧ W.cell? ⟨g, 2, none⟩ = some (.string x.a) ∧ W.cell? ⟨g, 3, none⟩ = some (.string x.v) ∧ W.cell? ⟨g, 4, none⟩ = some (.string x.n) ∧ W.cell? ⟨g, 5, none⟩ = some (.string x.d)
theorem Six.below {W W' : World} {g B : Nat} {x : H} (h : Six W g x) (hb : Below B W W') (hg : g < B) : Six W' g x := by
  obtain ⟨h0, h1, h2, h3, h4, h5⟩ := h
  exact ⟨(hb.cell (p := ⟨g, 0, none⟩) hg).trans h0, (hb.cell (p := ⟨g, 1, none⟩) hg).trans h1, (hb.cell (p := ⟨g, 2, none⟩) hg).trans h2, (hb.cell (p := ⟨g, 3, none⟩) hg).trans h3, (hb.cell (p := ⟨g, 4, none⟩) hg).trans h4, (hb.cell (p := ⟨g, 5, none⟩) hg).trans h5⟩
theorem Six.lt {W : World} {g : Nat} {x : H} (h : Six W g x) : g < W.heap.size := World.block_lt_of_cell? W _ h.1
theorem six_new (w : World) (x : H) (t : TypeId) : Six (w.alloc (.cells (hcs x) t)) w.heap.size x := by
  unfold Six hcs; simp
theorem below_next {w : World} {o : Obj} {W : World} (h : Below (w.alloc o).heap.size (w.alloc o) W) : Below w.heap.size w W :=
  ((Below.refl _ _).alloc (Nat.le_refl _) o).trans (h.mono (by simp))
end Go.Proofs.YtajfmjgaaapjeaaGreatDoor
namespace Go.Proofs.YtajfmjgaaapjeaaGreatDoor
open Go.RowKit
open Num
set_option linter.unusedVariables false
set_option maxHeartbeats 400000 in
set_option maxRecDepth 100000 in
theorem spec_piece (s : ByteArray) (w : World) (hs : s.size ≤ 1099511627776) :
    Calls Tryz.prog 84 #[.string s] w fun e w' => e = .returned (.string (pc s)) ∧ Below w.heap.size w w' := by
  have hv := var_size (s.size : Int)
  have kV := fun W => spec_var (s.size : Int) W
  have HP : Hid (pc s = var (s.size : Int) ++ s) := rfl
  generalize var (s.size : Int) = q at *
  have hno : ¬ 9223372036854775807 < q.size + s.size := by omega
  go_enter Tryz.func84, Tryz.ntmps84
  go_wp2_with fail
  refine (kV _).mono ?_
  rintro e w1 ⟨rfl, b1⟩
  go_wp2
  go_ret
  exact ⟨by rw [HP.out]; rfl, b1⟩
end Go.Proofs.YtajfmjgaaapjeaaGreatDoor
namespace Go.Proofs.YtajfmjgaaapjeaaGreatDoor
open Go.RowKit
open Num
set_option linter.unusedVariables false
set_option maxHeartbeats 1600000 in
set_option maxRecDepth 100000 in
theorem spec_show (x : H) (w : World) :
    Calls Tryz.prog 50 #[hV x] w fun e w' => e = .returned (.string (showH x)) ∧ Below w.heap.size w w' := by
  have kO := fun W => spec_ok x W
  have HS : Hid (Six (w.alloc (.cells (hcs x) 27)) w.heap.size x) := six_new w x 27
  have HB : Hid (Below w.heap.size w (w.alloc (.cells (hcs x) 27))) := (Below.refl _ _).alloc (Nat.le_refl _) _
  have hz : w.heap.size < (w.alloc (.cells (hcs x) 27)).heap.size := by simp
  rcases hO : hOk x with _ | _
  · rw [showH_no hO]
    rw [hO] at kO
    clear hO
    obtain ⟨h, t, a, v, n, d⟩ := x
    obtain ⟨x0, x1, x2, x3, x4, x5⟩ := HS.out
    unfold hV at *
    unfold hcs at *
    simp only at kO x0 x1 x2 x3 x4 x5 ⊢
    go_enter Tryz.func50, Tryz.ntmps50
    go_wp2_with fail
    refine (kO _).mono ?_
    rintro e w2 ⟨rfl, b2⟩
    go_wp2
    go_ret
    exact ⟨rfl, HB.out.trans (b2.mono HB.out.size)⟩
  · rw [showH_yes hO]
    rw [hO] at kO
    have ho := (hOk_iff x).1 hO
    have ha := hOk_a hO
    clear hO
    obtain ⟨h, t, a, v, n, d⟩ := x
    obtain ⟨_, _, _, _, _, o1, o2, o3⟩ := ho
    simp only at ha o1 o2 o3
    have HE : Hid (shH ⟨h, t, a, v, n, d⟩ = var h ++ var t ++ pc a ++ pc v ++ pc n ++ pc d) := rfl
    generalize shH ⟨h, t, a, v, n, d⟩ = R at *
    have z1 := var_size h
    have z2 := var_size t
    have z3 := pc_size a
    have z4 := pc_size v
    have z5 := pc_size n
    have z6 := pc_size d
    have e2 := ByteArray.size_append (a := var h) (b := var t)
    have e3 := ByteArray.size_append (a := var h ++ var t) (b := pc a)
    have e4 := ByteArray.size_append (a := var h ++ var t ++ pc a) (b := pc v)
    have e5 := ByteArray.size_append (a := var h ++ var t ++ pc a ++ pc v) (b := pc n)
    have m2 : ¬ 9223372036854775807 < (var h).size + (var t).size := by omega
    have m3 : ¬ 9223372036854775807 < (var h ++ var t).size + (pc a).size := by omega
    have m4 : ¬ 9223372036854775807 < (var h ++ var t ++ pc a).size + (pc v).size := by omega
    have m5 : ¬ 9223372036854775807 < (var h ++ var t ++ pc a ++ pc v).size + (pc n).size := by omega
    have m6 : ¬ 9223372036854775807 < (var h ++ var t ++ pc a ++ pc v ++ pc n).size + (pc d).size := by omega
    have y1 : a.size ≤ 1099511627776 := by omega
    have y2 : v.size ≤ 1099511627776 := by omega
    have y3 : n.size ≤ 1099511627776 := by omega
    have y4 : d.size ≤ 1099511627776 := by omega
    clear z1 z2 z3 z4 z5 z6 e2 e3 e4 e5 ha o1 o2 o3
    obtain ⟨x0, x1, x2, x3, x4, x5⟩ := HS.out
    unfold hV at *
    unfold hcs at *
    simp only at kO x0 x1 x2 x3 x4 x5 ⊢
    go_enter Tryz.func50, Tryz.ntmps50
    go_wp2_with fail
    generalize w.alloc (Obj.cells #[Value.int .i64 h, Value.int .i64 t, Value.string a, Value.string v, Value.string n, Value.string d] 27) = w1 at *
    refine (kO _).mono ?_
    rintro e w2 ⟨rfl, b2⟩
    have HB2 : Hid (Below w1.heap.size w1 w2) := b2
    clear b2 x0 x1 x2 x3 x4 x5 kO
    obtain ⟨x0, x1, x2, x3, x4, x5⟩ := HS.out.below HB2.out hz
    simp only at x0 x1 x2 x3 x4 x5
    have hne := bel_some w2
    have c0 := fun p : Bel w2 => p.cell x0
    have c1 := fun p : Bel w2 => p.cell x1
    have c2 := fun p : Bel w2 => p.cell x2
    have c3 := fun p : Bel w2 => p.cell x3
    have c4 := fun p : Bel w2 => p.cell x4
    have c5 := fun p : Bel w2 => p.cell x5
    clear x0 x1 x2 x3 x4 x5
    go_wp2_with fail
    refine wp_region_below (by kernel_rfl) (by kernel_rfl) ?_
    repeat (go_big_quiet_step (first | (go_at_call 83; exact bel_of (spec_var _ _)) | (go_at_call 84; exact bel_of (spec_piece _ _ (by assumption)))))
    refine wpQuiet_nil ?_
    intro _ hw'
    obtain ⟨pq, hw''⟩ := hw'
    subst hw''
    have HB3 : Hid (Below w1.heap.size w1 pq.W) := HB2.out.trans (pq.h.mono HB2.out.size)
    go_wp2
    go_ret
    exact ⟨by rw [HE.out]; rfl, HB.out.trans (HB3.out.mono HB.out.size)⟩
end Go.Proofs.YtajfmjgaaapjeaaGreatDoor
namespace Go.Proofs.YtajfmjgaaapjeaaGreatDoor
open Go.RowKit
set_option linter.unusedVariables false
theorem step_append_str {P : Program} {ops : Array Oper} {o : Oper} {a : Act} {w : World} {K : Act → World → Prop} {Q : Exit → Act → World → Prop} {E : Prop} (hgd : o.guard = none) (sl x : Operand) (t u : TypeId)
    (ho : o.op = .call { callee := .builtin .append, args := #[sl, x], argTypes := #[t, u] })
    (base : Nat) (e : TypeId) (i : TypeInfo) (ht : P.underlying t = some (.slice e)) (hu : P.underlying u = some .string) (hi : P.info? e = some i) (hz : i.zero = some (.int .u8 0))
    (hsize : i.size = 1) (hby : i.bytes = 1)
    (v : Value) (n : Nat) (xs : List Value) (hs : a.eval sl = v) (hown : w.ownsRow base e 1 v n xs) (s : ByteArray) (hx : a.eval x = .string s)
    (h63 : n + s.size ≤ maxLen) (hbytes : n + s.size ≤ 140737488355328) (hbase : base ≤ w.heap.size)
    (h : ∀ v' w', w'.ownsRow base e 1 v' (n + s.size) (xs ++ Lib.strCells s) → w.grownBy w' v.ownBlock → K (a.put o.dst v') w') :
    if Region.wanted o (yielded ops a.tmps) = true then Oper.wp P o a w K Q else E := by
  have hw : Region.wanted o (yielded ops a.tmps) = true := by simp [Region.wanted, hgd]
  rw [if_pos hw]
  obtain ⟨v', w', hr, h2, h3, h4⟩ := Lib.run_append_own_string (P := P) w base t u o.type e i ht hu hi hz hsize hby v n xs hown s h63 hbytes hbase
  unfold Oper.wp execOp
  simp only [ho, resolve, invoke, builtin, Sem.run_bind, Sem.run_pure, Result.andThen_ok, List.map_toArray, List.map_cons, List.map_nil, hs, hx, hr]
  exact h v' w' h2 h3
theorem run_enter {P : Program} {f : FuncId} {fn : Func} (hf : P.funcs[f]? = some fn) (hname : (fn.name == "runtime.NumGoroutine") = false) (hb : fn.body.isNone = false) (args : Array Value) (w : World) :
    (callFunc f args).run P w = .ok (.enter f args) w := by
  have h1 : fn.name ≠ "runtime.NumGoroutine" := by simpa using hname
  have h2 : ¬ fn.body = none := by intro e; rw [e] at hb; cases hb
  simp [callFunc, hf, h1, h2]
theorem step_call1 {P : Program} {ops : Array Oper} {o : Oper} {a : Act} {w : World} {K : Act → World → Prop} {Q : Exit → Act → World → Prop} {E : Prop} (hgd : o.guard = none) (f : FuncId) (x : Operand) (t : TypeId)
    (ho : o.op = .call { callee := .value (.func f), args := #[x], argTypes := #[t] }) (fn : Func) (hf : P.funcs[f]? = some fn) (hname : (fn.name == "runtime.NumGoroutine") = false) (hb : fn.body.isNone = false)
    (u v : Value) (hx : a.eval x = u) (R : World → Prop) (hc : Calls P f #[u] w fun e w' => e = .returned v ∧ R w') (h : ∀ w', R w' → K (a.put o.dst v) w') :
    if Region.wanted o (yielded ops a.tmps) = true then Oper.wp P o a w K Q else E := by
  have hw : Region.wanted o (yielded ops a.tmps) = true := by simp [Region.wanted, hgd]
  rw [if_pos hw]
  have hr := run_enter hf hname hb #[u] w
  have he : a.eval (.func f) = .func (.func f) #[] #[] := rfl
  unfold Oper.wp execOp
  simp only [ho, resolve, invoke, Sem.run_bind, Sem.run_pure, Result.andThen_ok, List.map_toArray, List.map_cons, List.map_nil, hx, he, Deferred.ofValue, Array.append_empty, Array.empty_append, hr]
  rw [Oper.upon_enter]
  refine hc.mono ?_
  rintro e w' ⟨rfl, hR⟩
  exact h w' hR
end Go.Proofs.YtajfmjgaaapjeaaGreatDoor
