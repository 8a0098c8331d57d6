/- A signer that is being drawn: its block, its row, the cursor; what keeps it. Conditions: none of ours. -/
import Derived.Test.YtmjlpdmdpagggaaAs14
import Derived.Test.YtmjlpdmdpagggaaDv
import Derived.Test.YtmjlpdmdpagggaaSd14
namespace Go.Proofs.Ytmjlpdmdpagggaa
open Go.RowKit
open Num
set_option linter.unusedVariables false
theorem step_call1e {P : Program} {ops : Array Oper} {o : Oper} {a : Act} {w : World} {K : Act → World → Prop} {Q : Exit → Act → World → Prop} {E : Prop} (hgd : o.guard = none) (f : FuncId) (x : Operand) (t : TypeId)
    (ho : o.op = .call { callee := .value (.func f), args := #[x], argTypes := #[t] }) (fn : Func) (hf : P.funcs[f]? = some fn) (hname : (fn.name == "runtime.NumGoroutine") = false) (hb : fn.body.isNone = false)
    (u : Value) (hx : a.eval x = u) (T : Type) (V : T → Value) (R : T → World → Prop) (hc : Calls P f #[u] w fun e w' => ∃ v, e = .returned (V v) ∧ R v w') (h : ∀ v w', R v w' → K (a.put o.dst (V v)) w') :
    if Region.wanted o (yielded ops a.tmps) = true then Oper.wp P o a w K Q else E := by
  have hw : Region.wanted o (yielded ops a.tmps) = true := by simp [Region.wanted, hgd]
  rw [if_pos hw]
  have hr := run_enter hf hname hb #[u] w
  have he : a.eval (.func f) = .func (.func f) #[] #[] := rfl
  unfold Oper.wp execOp
  simp only [ho, resolve, invoke, Sem.run_bind, Sem.run_pure, Result.andThen_ok, List.map_toArray, List.map_cons, List.map_nil, hx, he, Deferred.ofValue, Array.append_empty, Array.empty_append, hr]
  rw [Oper.upon_enter]
  refine hc.mono ?_
  rintro e w' ⟨v, rfl, hR⟩
  exact h v w' hR
def zL : List Value := [.int .i64 0, .int .i64 0, .int .i64 0, .int .i64 0, .string ⟨#[]⟩, .int .i64 0, .int .i64 0, .int .i64 0, .string ⟨#[]⟩, .bool false, .slice none 0 0]
structure SSt (w wx : World) (g B r s : Nat) (z : Sg) (a : Option Addr) (c : Nat) : Prop where
  fb : Blk wx s (sL z (.slice a z.o.length c)) 29
  fz : Blk wx r zL 29
  fo : OwnY wx w.heap.size (.slice a z.o.length c) z.o
  fd : DS wx g B
  fg : w.grownBy wx (some g)
  fs : w.heap.size ≤ s
  fr : w.heap.size ≤ r
  fn : s ≠ r
  fl : g < w.heap.size
  fk : B ≤ w.heap.size
theorem SSt.call {w wx wy : World} {g B r s c : Nat} {z : Sg} {a : Option Addr} (h : SSt w wx g B r s z a c) (hd : DS wy g B) (hg : wx.grownBy wy (some g)) : SSt w wy g B r s z a c := by
  have h1 := h.fl; have h2 := h.fs; have h3 := h.fr
  exact ⟨h.fb.grown hg (fun e => by injection e with e; omega), h.fz.grown hg (fun e => by injection e with e; omega), own_still h.fo hg (fun j e => by injection e with e; omega), hd, grown_trans h.fg hg, h2, h3, h.fn, h1, h.fk⟩
theorem SSt.below {w wx wy : World} {g B r s c : Nat} {z : Sg} {a : Option Addr} (h : SSt w wx g B r s z a c) (hb : Below wx.heap.size wx wy) : SSt w wy g B r s z a c :=
  ⟨h.fb.below hb h.fb.lt, h.fz.below hb h.fz.lt, own_keep h.fo hb, h.fd.below (hb.mono (Nat.le_trans h.fk h.fg.size)), gr_below h.fg (hb.mono h.fg.size), h.fs, h.fr, h.fn, h.fl, h.fk⟩
theorem SSt.alloc {w wx : World} {g B r s c : Nat} {z : Sg} {a : Option Addr} (h : SSt w wx g B r s z a c) (o : Obj) : SSt w (wx.alloc o) g B r s z a c := h.below (below_one _ _)
theorem SSt.drew {w wx : World} {g B r s c : Nat} {z : Sg} {a : Option Addr} (h : SSt w wx g B r s z a c) : SSt w wx.drew g B r s z a c := h.below (Below.refl _ _).drew
theorem SSt.yo {w wx : World} {g B r s c : Nat} {z : Sg} {a : Option Addr} (h : SSt w wx g B r s z a c) : YO wx a z.o := by
  obtain ⟨a', c', e, h1, _⟩ := OwnY.o h.fo
  injection e with e1 _ _
  subst e1; exact h1
theorem SSt.hz {w wx : World} {g B r s c : Nat} {z : Sg} {a : Option Addr} (h : SSt w wx g B r s z a c) : a = none → c = 0 := (OwnY.fit h.fo).1
/-- A store of a whole signer: its row is the call's own. -/
theorem SSt.put {w wx : World} {g B r s c c' : Nat} {z z' : Sg} {a a' : Option Addr} (h : SSt w wx g B r s z a c) (hq : OwnY wx w.heap.size (.slice a' z'.o.length c') z'.o) :
    SSt w (((((((((((wx.setCell ⟨s, 0, none⟩ (.int .i64 z'.v)).setCell ⟨s, 1, none⟩ (.int .i64 z'.d.h)).setCell ⟨s, 2, none⟩ (.int .i64 z'.d.r)).setCell ⟨s, 3, none⟩ (.int .i64 z'.d.s)).setCell ⟨s, 4, none⟩ (.string z'.d.i)).setCell ⟨s, 5, none⟩ (.int .i64 z'.m.h)).setCell ⟨s, 6, none⟩ (.int .i64 z'.m.r)).setCell ⟨s, 7, none⟩ (.int .i64 z'.m.s)).setCell ⟨s, 8, none⟩ (.string z'.m.i)).setCell ⟨s, 9, none⟩ (.bool z'.p)).setCell ⟨s, 10, none⟩ (.slice a' z'.o.length c')) g B r s z' a' c' := by
  have hgr : wx.grownBy (((((((((((wx.setCell ⟨s, 0, none⟩ (.int .i64 z'.v)).setCell ⟨s, 1, none⟩ (.int .i64 z'.d.h)).setCell ⟨s, 2, none⟩ (.int .i64 z'.d.r)).setCell ⟨s, 3, none⟩ (.int .i64 z'.d.s)).setCell ⟨s, 4, none⟩ (.string z'.d.i)).setCell ⟨s, 5, none⟩ (.int .i64 z'.m.h)).setCell ⟨s, 6, none⟩ (.int .i64 z'.m.r)).setCell ⟨s, 7, none⟩ (.int .i64 z'.m.s)).setCell ⟨s, 8, none⟩ (.string z'.m.i)).setCell ⟨s, 9, none⟩ (.bool z'.p)).setCell ⟨s, 10, none⟩ (.slice a' z'.o.length c')) (some s) :=
    grown_set (grown_set (grown_set (grown_set (grown_set (grown_set (grown_set (grown_set (grown_set (grown_set (grown_set (grown_refl _ _) _) _) _) _) _) _) _) _) _) _) _
  have hbl : Below w.heap.size wx _ := (Below.refl w.heap.size wx).grown hgr h.fg.size (fun j e => by injection e with e; have := h.fs; omega)
  have hb := h.fb
  unfold sL at hb
  have hB := ((((((((((hb.set 0 (.int .i64 z'.v)).set 1 (.int .i64 z'.d.h)).set 2 (.int .i64 z'.d.r)).set 3 (.int .i64 z'.d.s)).set 4 (.string z'.d.i)).set 5 (.int .i64 z'.m.h)).set 6 (.int .i64 z'.m.r)).set 7 (.int .i64 z'.m.s)).set 8 (.string z'.m.i)).set 9 (.bool z'.p)).set 10 (.slice a' z'.o.length c')
  exact ⟨hB, h.fz.grown hgr (fun e => by injection e with e; exact h.fn e), own_aside hq hgr h.fb, h.fd.below (hbl.mono h.fk), gr_below h.fg hbl, h.fs, h.fr, h.fn, h.fl, h.fk⟩
/-- A store of one cell: the row stays. -/
theorem SSt.set {w wx : World} {g B r s c : Nat} {z z' : Sg} {a : Option Addr} (h : SSt w wx g B r s z a c) (k : Nat) (u : Value) (hz : (sL z (.slice a z.o.length c)).set k u = sL z' (.slice a z'.o.length c)) (ho : z'.o = z.o) : SSt w (wx.setCell ⟨s, k, none⟩ u) g B r s z' a c := by
  have hgr : wx.grownBy (wx.setCell ⟨s, k, none⟩ u) (some s) := gr_set _ _ _ _
  have hbl : Below w.heap.size wx _ := (Below.refl w.heap.size wx).grown hgr h.fg.size (fun j e => by injection e with e; have := h.fs; omega)
  exact ⟨hz ▸ h.fb.set k u, h.fz.grown hgr (fun e => by injection e with e; exact h.fn e), by rw [ho]; exact own_aside h.fo hgr h.fb, h.fd.below (hbl.mono h.fk), gr_below h.fg hbl, h.fs, h.fr, h.fn, h.fl, h.fk⟩
/-- A vote appended: the block is as it was, till the new row is stored. -/
theorem SSt.apb {w wx wq : World} {g B r s c : Nat} {z : Sg} {a : Option Addr} (h : SSt w wx g B r s z a c) (hg : wx.grownBy wq (Value.slice a z.o.length c).ownBlock) : Blk wq s (sL z (.slice a z.o.length c)) 29 := h.fb.grown hg (own_apart h.fo h.fb)
theorem SSt.app {w wx wq : World} {g B r s c c' : Nat} {z : Sg} {a a' : Option Addr} {l : List Vt} (h : SSt w wx g B r s z a c) (hg : wx.grownBy wq (Value.slice a z.o.length c).ownBlock) (hq : OwnY wq w.heap.size (.slice a' l.length c') l) :
    SSt w (wq.setCell ⟨s, 10, none⟩ (.slice a' l.length c')) g B r s ⟨z.v, z.d, z.m, z.p, l⟩ a' c' := by
  have hb := h.apb hg
  have hbl : Below w.heap.size wx wq := (Below.refl w.heap.size wx).grown hg h.fg.size (fun j hj => (World.ownsRow.lt (show wx.ownsRow w.heap.size 31 5 _ _ _ from h.fo) j hj).1)
  have hgr : wq.grownBy (wq.setCell ⟨s, 10, none⟩ (.slice a' l.length c')) (some s) := gr_set _ _ _ _
  have hbl2 : Below w.heap.size wx (wq.setCell ⟨s, 10, none⟩ (.slice a' l.length c')) := hbl.grown hgr (Nat.le_trans h.fg.size hg.size) (fun j e => by injection e with e; have := h.fs; omega)
  exact ⟨hb.set 10 _, (h.fz.grown hg (own_apart h.fo h.fz)).grown hgr (fun e => by injection e with e; exact h.fn e), own_aside hq hgr hb, h.fd.below (hbl2.mono h.fk), gr_below h.fg hbl2, h.fs, h.fr, h.fn, h.fl, h.fk⟩
end Go.Proofs.Ytmjlpdmdpagggaa
