/- Appends to rows of votes; what strings.Clone, slices.Clone, slices.Clip, l14Copy and copyOfSigner answer; old memory stays. Conditions: what a machine can hold. -/
import Derived.Test.YtmjlpdmdpagggaaSn
import Derived.Test.YtmjlpdmdpagggaaShelf
import Derived.Laws.AppendOwnNone
import Derived.Deep.RegionLaw
import Derived.Lib.SliceRun
namespace Go.Proofs.Ytmjlpdmdpagggaa
open Go.RowKit
open Num
set_option linter.unusedVariables false
theorem own_shape {w : World} {B n : Nat} {e : TypeId} {size : Nat} {v : Value} {xs : List Value} (h : w.ownsRow B e size v n xs) : ∃ a c, v = .slice a n c := by
  rcases h.2 with ⟨rfl, rfl⟩ | ⟨g, cap, cur, rfl, _⟩
  · exact ⟨_, _, rfl⟩
  · exact ⟨_, _, rfl⟩
theorem OwnY.nil (w : World) (B : Nat) : OwnY w B (.slice none 0 0) [] := ⟨rfl, .inl ⟨rfl, rfl⟩⟩
theorem own_emptyY (w : World) (B : Nat) (hB : B ≤ w.heap.size) : OwnY (w.alloc (.cells #[] 31)) B (.slice (some ⟨w.heap.size, 0, none⟩) 0 0) [] :=
  ⟨rfl, .inr ⟨w.heap.size, 0, #[], rfl, hB, heap_alloc_new w _, Nat.le_refl _, Nat.zero_le _, rfl, rfl⟩⟩
theorem ycs_len (l : List Vt) : (ycs l).length = l.length * 5 := flat_len yLs 5 (fun _ => rfl) l
theorem ycs_app (l k : List Vt) : ycs (l ++ k) = ycs l ++ ycs k := by unfold ycs; rw [List.flatMap_append]
theorem ycs_one (l : List Vt) : ∀ u ∈ ycs l, u.oneCell' = true := by
  intro u hu
  obtain ⟨y, _, hy⟩ := List.mem_flatMap.1 hu
  exact y_one y u hy
theorem add_offY (b o i : Nat) : (⟨b, o, none⟩ : Addr).add i = ⟨b, o + i, none⟩ := by unfold Addr.add; split <;> simp_all
theorem YAt.news {w : World} {b o : Nat} {l : List Vt} (h : YAt w b o l) : ∀ j u, (ycs l)[j]? = some u → w.cell? ((⟨b, o, none⟩ : Addr).add j) = some u := fun j u hj => by
  have hlt : j < l.length * 5 := by
    rw [← ycs_len]
    exact (List.getElem?_eq_some_iff.1 hj).1
  have hd : j / 5 < l.length := by omega
  have h1 := h (j / 5) hd (j % 5) (by omega)
  have h2 := flat_at yLs 5 (fun _ => rfl) l (j / 5) hd (j % 5) (by omega)
  have e : j / 5 * 5 + j % 5 = j := by omega
  rw [add_offY]
  rw [e] at h2
  rw [Nat.add_assoc, e] at h1
  rw [h1, ← h2]; exact hj
theorem YO.news {w : World} {x : Addr} {l : List Vt} (h : YO w (some x) l) : ∀ j u, (ycs l)[j]? = some u → w.cell? (x.add j) = some u := by
  rcases h with h | ⟨b, o, e, h2⟩
  · have : l = [] := List.length_eq_zero_iff.1 h
    subst this
    intro j u hj; simp [ycs] at hj
  · injection e with e; subst e; exact h2.news
theorem YO.none_nil {w : World} {l : List Vt} (h : YO w none l) : l = [] := by
  rcases h with h | ⟨b, o, e, h2⟩
  · exact List.length_eq_zero_iff.1 h
  · cases e
/-- A row appended to a row that the call owns. -/
theorem run_append_y {w : World} {B : Nat} {v : Value} {l0 l : List Vt} {ad : Option Addr} {cap : Nat} (ty : TypeId) (hown : OwnY w B v l0) (hl : YO w ad l) (hz : ad = none → cap = 0) (hlen : l0.length + l.length ≤ 2097152) (hB : B ≤ w.heap.size) :
    ∃ v' w', (Builtin.append_ #[27, 27] ty #[v, .slice ad l.length cap]).run Try.prog w = .ok v' w' ∧ OwnY w' B v' (l0 ++ l) ∧ w.grownBy w' v.ownBlock := by
  obtain ⟨i0, hi, hz0, hz1, hz2⟩ := infoYf
  cases ad with
  | none =>
    have hn := hl.none_nil
    subst hn
    rw [hz rfl, List.append_nil]
    have hr := run_append_owned_none (P := Try.prog) (w := w) B 27 ty 31 i0 5 Try.underlying27 hi v l0.length (ycs l0) hown
    exact ⟨v, w, hr, hown, ⟨rfl, rfl, rfl, Nat.le_refl _, fun _ _ _ => rfl⟩⟩
  | some x =>
    obtain ⟨v', w', hr, h2, h3, _⟩ := run_append_own (P := Try.prog) w B 27 ty 31 i0 (.agg #[.int .i64 0, .int .i64 0, .int .i64 0, .string ⟨#[]⟩, .int .i64 0]) 5 48 Try.underlying27 hi hz0 hz1 hz2 rfl (by decide) v l0.length (ycs l0) hown x l.length cap (ycs l) (ycs_len l) hl.news (ycs_one l) (by unfold maxLen; omega) (by omega) hB
    refine ⟨v', w', hr, ?_, h3⟩
    unfold OwnY
    rw [ycs_app, List.length_append]; exact h2
/-- One vote appended to a row that is cut at its length: a row of the call's own. -/
theorem run_append_cut {w : World} {l : List Vt} {ad : Option Addr} {x : Addr} {y : Vt} {c : Nat} (ty : TypeId) (hl : YO w ad l) (hx : ∀ j u, (yLs y)[j]? = some u → w.cell? (x.add j) = some u) (hlen : l.length ≤ 2097152) :
    ∃ v' w', (Builtin.append_ #[27, 27] ty #[.slice ad l.length l.length, .slice (some x) 1 c]).run Try.prog w = .ok v' w' ∧ OwnY w' w.heap.size v' (l ++ [y]) ∧ w.grownBy w' none := by
  obtain ⟨i0, hi, hz0, hz1, hz2⟩ := infoYf
  have h1 : ycs [y] = yLs y := by simp [ycs]
  have hlen1 : (yLs y).length = 1 * i0.size := by rw [hz1]; rfl
  have grown : ∀ (old : Nat), old < l.length + 1 →
      OwnY (w.drew.alloc (.cells ((ycs l).toArray ++ (yLs y).toArray ++ Builtin.zeroCells (Value.agg #[.int .i64 0, .int .i64 0, .int .i64 0, .string ⟨#[]⟩, .int .i64 0]).cells (grownCap w (l.length + 1) old 31 - (l.length + 1))) 31)) w.heap.size (.slice (some ⟨w.heap.size, 0, none⟩) (l.length + 1) (grownCap w (l.length + 1) old 31)) (l ++ [y]) ∧
      w.grownBy (w.drew.alloc (.cells ((ycs l).toArray ++ (yLs y).toArray ++ Builtin.zeroCells (Value.agg #[.int .i64 0, .int .i64 0, .int .i64 0, .string ⟨#[]⟩, .int .i64 0]).cells (grownCap w (l.length + 1) old 31 - (l.length + 1))) 31)) none := by
    intro old ho
    have hge := grownCap_ge w (l.length + 1) old 31
    have hcm : grownCap w (l.length + 1) old 31 ≤ maxLen := grownCap_le_maxLen w (l.length + 1) old 31 (by unfold maxLen; omega)
    have hs : (l ++ [y]).length = l.length + 1 := by simp
    have hs2 : (ycs (l ++ [y])).length = (l.length + 1) * 5 := by rw [ycs_len, hs]
    refine ⟨?_, ⟨rfl, rfl, rfl, by simp, fun k hk _ => heap_alloc_old w.drew _ hk⟩⟩
    unfold OwnY
    rw [hs]
    refine ⟨hs2, .inr ⟨w.heap.size, _, _, rfl, Nat.le_refl _, heap_alloc_new w.drew _, hge, hcm, ?_, ?_⟩⟩
    · have e1 : (yLs y).length = 5 := rfl
      simp only [Array.size_append, List.size_toArray, size_zeroCells, ycs_len, e1]
      have e2 : (Value.agg #[.int .i64 0, .int .i64 0, .int .i64 0, .string ⟨#[]⟩, .int .i64 0]).cells.size = 5 := rfl
      rw [e2]; omega
    · have e3 : ycs (l ++ [y]) = ycs l ++ yLs y := by rw [ycs_app, h1]
      simp only [Array.toList_append, List.append_assoc]
      rw [← List.append_assoc, ← e3, ← hs2]
      exact List.take_left
  cases ad with
  | none =>
    have hn := hl.none_nil
    subst hn
    have hr := run_append_nil (P := Try.prog) w 27 ty 31 i0 _ Try.underlying27 hi hz0 x 1 c (yLs y) hlen1 hx (by omega) (by omega) (by rw [hz2]; omega)
    have hg := grown 0 (by simp)
    simp only [List.length_nil, Nat.zero_add] at hg
    refine ⟨_, _, hr, ?_⟩
    have e : ((ycs []).toArray ++ (yLs y).toArray : Array Value) = (yLs y).toArray := by simp [ycs]
    rw [e] at hg
    exact hg
  | some b =>
    have hr := run_append_grow (P := Try.prog) w 27 ty 31 i0 _ Try.underlying27 hi hz0 b l.length l.length (ycs l) (by rw [hz1]; exact ycs_len l) hl.news x 1 c (yLs y) hlen1 hx (by omega) (by omega) (growslice_fits (by omega) (by rw [hz2]; omega))
    exact ⟨_, _, hr, grown l.length (by omega)⟩
theorem wpList_append_y {w : World} {ops : Array Oper} {rest : List Oper} {o : Oper} {a : Act} {Q : Exit → Act → World → Prop} (hgd : o.guard = none) (s x : Operand)
    (ho : o.op = .call { callee := .builtin .append, args := #[s, x], argTypes := #[27, 27] })
    {B : Nat} {v : Value} {l0 l : List Vt} {ad : Option Addr} {cap : Nat} (hs : a.eval s = v) (hown : OwnY w B v l0) (hx : a.eval x = .slice ad l.length cap) (hl : YO w ad l) (hz : ad = none → cap = 0) (hlen : l0.length + l.length ≤ 2097152) (hB : B ≤ w.heap.size)
    (h : ∀ v' w', OwnY w' B v' (l0 ++ l) → w.grownBy w' v.ownBlock → wpList Try.prog ops Q rest (a.put o.dst v') w') : wpList Try.prog ops Q (o :: rest) a w := by
  refine wpList_plain hgd fun K hK => ?_
  obtain ⟨v', w', hr, h2, h3⟩ := run_append_y (w := w) o.type hown hl hz hlen hB
  unfold Oper.wp execOp
  simp only [ho, resolve, invoke, builtin, Sem.run_bind, Sem.run_pure, Result.andThen_ok, List.map_toArray, List.map_cons, List.map_nil, hs, hx, hr]
  exact hK _ _ (h v' w' h2 h3)
theorem step_append_y {w : World} {ops : Array Oper} {o : Oper} {a : Act} {K : Act → World → Prop} {Q : Exit → Act → World → Prop} {E : Prop} (hgd : o.guard = none) (s x : Operand)
    (ho : o.op = .call { callee := .builtin .append, args := #[s, x], argTypes := #[27, 27] })
    {B : Nat} {v : Value} {l0 l : List Vt} {ad : Option Addr} {cap : Nat} (hs : a.eval s = v) (hown : OwnY w B v l0) (hx : a.eval x = .slice ad l.length cap) (hl : YO w ad l) (hz : ad = none → cap = 0) (hlen : l0.length + l.length ≤ 2097152) (hB : B ≤ w.heap.size)
    (h : ∀ v' w', OwnY w' B v' (l0 ++ l) → w.grownBy w' v.ownBlock → K (a.put o.dst v') w') :
    if Region.wanted o (yielded ops a.tmps) = true then Oper.wp Try.prog o a w K Q else E := by
  have hw : Region.wanted o (yielded ops a.tmps) = true := by simp [Region.wanted, hgd]
  rw [if_pos hw]
  obtain ⟨v', w', hr, h2, h3⟩ := run_append_y (w := w) o.type hown hl hz hlen hB
  unfold Oper.wp execOp
  simp only [ho, resolve, invoke, builtin, Sem.run_bind, Sem.run_pure, Result.andThen_ok, List.map_toArray, List.map_cons, List.map_nil, hs, hx, hr]
  exact h v' w' h2 h3
theorem step_append_cut {w : World} {ops : Array Oper} {o : Oper} {a : Act} {K : Act → World → Prop} {Q : Exit → Act → World → Prop} {E : Prop} (hgd : o.guard = none) (s x : Operand)
    (ho : o.op = .call { callee := .builtin .append, args := #[s, x], argTypes := #[27, 27] })
    {l : List Vt} {ad : Option Addr} {xa : Addr} {y : Vt} {c : Nat} (hs : a.eval s = .slice ad l.length l.length) (hx : a.eval x = .slice (some xa) 1 c) (hl : YO w ad l) (hn : ∀ j u, (yLs y)[j]? = some u → w.cell? (xa.add j) = some u) (hlen : l.length ≤ 2097152)
    (h : ∀ v' w', OwnY w' w.heap.size v' (l ++ [y]) → w.grownBy w' none → K (a.put o.dst v') w') :
    if Region.wanted o (yielded ops a.tmps) = true then Oper.wp Try.prog o a w K Q else E := by
  have hw : Region.wanted o (yielded ops a.tmps) = true := by simp [Region.wanted, hgd]
  rw [if_pos hw]
  obtain ⟨v', w', hr, h2, h3⟩ := run_append_cut (w := w) (c := c) o.type hl hn hlen
  unfold Oper.wp execOp
  simp only [ho, resolve, invoke, builtin, Sem.run_bind, Sem.run_pure, Result.andThen_ok, List.map_toArray, List.map_cons, List.map_nil, hs, hx, hr]
  exact h v' w' h2 h3
theorem run_enter {P : Program} {f : FuncId} {fn : Func} (hf : P.funcs[f]? = some fn) (hname : (fn.name == "runtime.NumGoroutine") = false) (hb : fn.body.isNone = false) (args : Array Value) (w : World) :
    (callFunc f args).run P w = .ok (.enter f args) w := by
  have h1 : fn.name ≠ "runtime.NumGoroutine" := by simpa using hname
  have h2 : ¬ fn.body = none := by intro e; rw [e] at hb; cases hb
  simp [callFunc, hf, h1, h2]
theorem step_call1 {P : Program} {ops : Array Oper} {o : Oper} {a : Act} {w : World} {K : Act → World → Prop} {Q : Exit → Act → World → Prop} {E : Prop} (hgd : o.guard = none) (f : FuncId) (x : Operand) (t : TypeId)
    (ho : o.op = .call { callee := .value (.func f), args := #[x], argTypes := #[t] }) (fn : Func) (hf : P.funcs[f]? = some fn) (hname : (fn.name == "runtime.NumGoroutine") = false) (hb : fn.body.isNone = false)
    (u v : Value) (hx : a.eval x = u) (R : World → Prop) (hc : Calls P f #[u] w fun e w' => e = .returned v ∧ R w') (h : ∀ w', R w' → K (a.put o.dst v) w') :
    if Region.wanted o (yielded ops a.tmps) = true then Oper.wp P o a w K Q else E := by
  have hw : Region.wanted o (yielded ops a.tmps) = true := by simp [Region.wanted, hgd]
  rw [if_pos hw]
  have hr := run_enter hf hname hb #[u] w
  have he : a.eval (.func f) = .func (.func f) #[] #[] := rfl
  unfold Oper.wp execOp
  simp only [ho, resolve, invoke, Sem.run_bind, Sem.run_pure, Result.andThen_ok, List.map_toArray, List.map_cons, List.map_nil, hx, he, Deferred.ofValue, Array.append_empty, Array.empty_append, hr]
  rw [Oper.upon_enter]
  refine hc.mono ?_
  rintro e w' ⟨rfl, hR⟩
  exact h w' hR
theorem step_call2 {P : Program} {ops : Array Oper} {o : Oper} {a : Act} {w : World} {K : Act → World → Prop} {Q : Exit → Act → World → Prop} {E : Prop} (hgd : o.guard = none) (f : FuncId) (x y : Operand) (t s : TypeId)
    (ho : o.op = .call { callee := .value (.func f), args := #[x, y], argTypes := #[t, s] }) (fn : Func) (hf : P.funcs[f]? = some fn) (hname : (fn.name == "runtime.NumGoroutine") = false) (hb : fn.body.isNone = false)
    (u u' v : Value) (hx : a.eval x = u) (hy : a.eval y = u') (R : World → Prop) (hc : Calls P f #[u, u'] w fun e w' => e = .returned v ∧ R w') (h : ∀ w', R w' → K (a.put o.dst v) w') :
    if Region.wanted o (yielded ops a.tmps) = true then Oper.wp P o a w K Q else E := by
  have hw : Region.wanted o (yielded ops a.tmps) = true := by simp [Region.wanted, hgd]
  rw [if_pos hw]
  have hr := run_enter hf hname hb #[u, u'] w
  have he : a.eval (.func f) = .func (.func f) #[] #[] := rfl
  unfold Oper.wp execOp
  simp only [ho, resolve, invoke, Sem.run_bind, Sem.run_pure, Result.andThen_ok, List.map_toArray, List.map_cons, List.map_nil, hx, hy, he, Deferred.ofValue, Array.append_empty, Array.empty_append, hr]
  rw [Oper.upon_enter]
  refine hc.mono ?_
  rintro e w' ⟨rfl, hR⟩
  exact h w' hR
set_option maxHeartbeats 400000 in
set_option maxRecDepth 100000 in
theorem impl_clone (s : ByteArray) (w : World) (hs : s.size ≤ 1048576) :
    Calls Try.prog 82 #[.string s] w fun e w' => e = .returned (.string s) ∧ Below w.heap.size w w' := by
  go_enter Try.func82, Try.ntmps82
  go_wp2_with fail
  refine (Try.stringslite_Clone s w (by omega)).mono ?_
  rintro e w1 ⟨rfl, hb⟩
  go_wp2
  go_ret
  exact ⟨rfl, hb⟩
set_option maxHeartbeats 400000 in
set_option maxRecDepth 100000 in
theorem impl_clip (a : Option Addr) (n cap : Nat) (w : World) (hn : n ≤ cap) (hz : a = none → cap = 0) (hm : cap ≤ 9223372036854775807) :
    Calls Try.prog 67 #[.slice a n cap] w fun e w' => e = .returned (.slice a n n) ∧ w' = w := by
  cases a with
  | none =>
    have h0 := hz rfl
    subst h0
    have hn0 : n = 0 := by omega
    subst hn0
    go_enter Try.func67, Try.ntmps67
    go_wp2
    go_ret
    exact ⟨rfl, rfl⟩
  | some x =>
    obtain ⟨b, off, spot⟩ := x
    go_enter Try.func67, Try.ntmps67
    go_wp2
    go_ret
    exact ⟨rfl, rfl⟩
set_option maxHeartbeats 400000 in
set_option maxRecDepth 100000 in
theorem impl_clone_y (a : Option Addr) (l : List Vt) (cap : Nat) (w : World) (hl : YO w a l) (hz : a = none → cap = 0) (hlen : l.length ≤ 1048576) :
    Calls Try.prog 83 #[.slice a l.length cap] w fun e w' => ∃ q, e = .returned q ∧ Hid (OwnY w' w.heap.size q l) ∧ Below w.heap.size w w' := by
  cases a with
  | none =>
    have h0 := hz rfl
    have hn := hl.none_nil
    subst hn
    subst h0
    have HN : Hid (OwnY w w.heap.size (.slice none 0 0) []) := OwnY.nil _ _
    show Calls Try.prog 83 #[.slice none 0 0] w _
    have he : ∀ W, (binOp .eql 27 (.slice none 0 0) (.slice none 0 0)).run Try.prog W = .ok (.bool true) W := fun W => Lib.run_eql_slice_nil W 27 31 none 0 0 0 0 Try.underlying27
    go_enter Try.func83, Try.ntmps83
    go_wp2
    go_ret
    exact ⟨_, rfl, HN, Below.refl _ _⟩
  | some x =>
    have he : ∀ W, (binOp .eql 27 (.slice (some x) l.length cap) (.slice none 0 0)).run Try.prog W = .ok (.bool false) W := fun W => Lib.run_eql_slice_nil W 27 31 (some x) l.length cap 0 0 Try.underlying27
    have HO : Hid (OwnY (w.alloc (.cells #[] 31)) w.heap.size (.slice (some ⟨w.heap.size, 0, none⟩) 0 0) []) := own_emptyY w _ (Nat.le_refl _)
    have HL : Hid (YO (w.alloc (.cells #[] 31)) (some x) l) := hl.below (below_one _ _)
    have HB : Hid (Below w.heap.size w (w.alloc (.cells #[] 31))) := below_one _ _
    clear hl
    go_enter Try.func83, Try.ntmps83
    go_wp2_with (at_builtin; refine wpList_append_y rfl _ _ rfl rfl HO.out rfl HL.out hz (by simp; omega) (by simp) ?_)
    intro v2 w2 hown hgr
    have HO2 : Hid (OwnY w2 w.heap.size v2 l) := hown
    have HB2 : Hid (Below w.heap.size w w2) := HB.out.grown hgr (by simp) (fun j hj => by simp [Value.ownBlock] at hj; omega)
    clear hown hgr
    go_wp2
    go_ret
    exact ⟨_, rfl, HO2, HB2.out⟩
set_option maxHeartbeats 1600000 in
set_option maxRecDepth 100000 in
theorem spec_copy (x : Sg) (a : Option Addr) (cap : Nat) (w : World) (hl : YO w a x.o) (hz : a = none → cap = 0) (hlen : x.o.length ≤ 1048576) :
    Calls Try.prog 40 #[sV x a cap] w fun e w' => ∃ q, e = .returned (sQ x q) ∧ Hid (OwnY w' w.heap.size q x.o) ∧ Below w.heap.size w w' := by
  obtain ⟨v, ⟨dh, dr, ds, di⟩, ⟨mh, mr, ms, mi⟩, p, o⟩ := x
  unfold sV sQ
  simp only at *
  obtain ⟨W0, hW0⟩ : ∃ W, (w.alloc (.cells #[.int .i64 v, .int .i64 dh, .int .i64 dr, .int .i64 ds, .string di, .int .i64 mh, .int .i64 mr, .int .i64 ms, .string mi, .bool p, .slice a o.length cap] 29)).alloc (.cells #[.int .i64 0, .int .i64 0, .int .i64 0, .int .i64 0, .string ⟨#[]⟩, .int .i64 0, .int .i64 0, .int .i64 0, .string ⟨#[]⟩, .bool false, .slice none 0 0] 29) = W := ⟨_, rfl⟩
  have HX0 : Hid (Blk W0 w.heap.size [.int .i64 v, .int .i64 dh, .int .i64 dr, .int .i64 ds, .string di, .int .i64 mh, .int .i64 mr, .int .i64 ms, .string mi, .bool p, .slice a o.length cap] 29) := by
    rw [← hW0]
    have hnew := blk_new (w) [.int .i64 v, .int .i64 dh, .int .i64 dr, .int .i64 ds, .string di, .int .i64 mh, .int .i64 mr, .int .i64 ms, .string mi, .bool p, .slice a o.length cap] 29
    exact (hnew.alloc _)
  have HR0 : Hid (Blk W0 (w.heap.size + 1) [.int .i64 0, .int .i64 0, .int .i64 0, .int .i64 0, .string ⟨#[]⟩, .int .i64 0, .int .i64 0, .int .i64 0, .string ⟨#[]⟩, .bool false, .slice none 0 0] 29) := by
    rw [← hW0]
    have hnew := blk_new (w.alloc (.cells #[.int .i64 v, .int .i64 dh, .int .i64 dr, .int .i64 ds, .string di, .int .i64 mh, .int .i64 mr, .int .i64 ms, .string mi, .bool p, .slice a o.length cap] 29)) [.int .i64 0, .int .i64 0, .int .i64 0, .int .i64 0, .string ⟨#[]⟩, .int .i64 0, .int .i64 0, .int .i64 0, .string ⟨#[]⟩, .bool false, .slice none 0 0] 29
    rw [show (w.alloc (.cells #[.int .i64 v, .int .i64 dh, .int .i64 dr, .int .i64 ds, .string di, .int .i64 mh, .int .i64 mr, .int .i64 ms, .string mi, .bool p, .slice a o.length cap] 29)).heap.size = w.heap.size + 1 from by simp] at hnew
    exact hnew
  have HB0 : Hid (Below w.heap.size w W0) := by rw [← hW0]; exact ((Below.refl w.heap.size w).alloc (Nat.le_refl _) _).alloc (by simp; try omega) _
  have hsz : w.heap.size + 1 < W0.heap.size := HR0.out.lt
  have HO : Hid (OwnY (W0.alloc (.cells #[] 31)) W0.heap.size (.slice (some ⟨W0.heap.size, 0, none⟩) 0 0) []) := own_emptyY W0 _ (Nat.le_refl _)
  have HL : Hid (YO (W0.alloc (.cells #[] 31)) a o) := (hl.below HB0.out).below (below_one _ _)
  have HA : Hid (Below W0.heap.size W0 (W0.alloc (.cells #[] 31))) := below_one _ _
  go_enter Try.func40, Try.ntmps40
  have cXa := (HX0.out.alloc (.cells #[] 31)).cell 10 rfl
  go_wp2_with (at_builtin; refine wpList_append_y rfl _ _ rfl rfl HO.out rfl HL.out hz (by simp; omega) (by simp) ?_)
  intro v2 w2 hown hgr
  clear hW0 cXa
  obtain ⟨qa, qc, rfl⟩ := own_shape hown
  have HQ0 : Hid (OwnY w2 W0.heap.size (.slice qa o.length qc) o) := hown
  have HX1 : Hid (Blk w2 w.heap.size [.int .i64 v, .int .i64 dh, .int .i64 dr, .int .i64 ds, .string di, .int .i64 mh, .int .i64 mr, .int .i64 ms, .string mi, .bool p, .slice a o.length cap] 29) := (HX0.out.alloc _).grown hgr (by simp [Value.ownBlock]; omega)
  have HR1 : Hid (Blk w2 (w.heap.size + 1) [.int .i64 0, .int .i64 0, .int .i64 0, .int .i64 0, .string ⟨#[]⟩, .int .i64 0, .int .i64 0, .int .i64 0, .string ⟨#[]⟩, .bool false, .slice none 0 0] 29) := (HR0.out.alloc _).grown hgr (by simp [Value.ownBlock]; omega)
  have HB1 : Hid (Below w.heap.size w w2) := (HB0.out.trans (HA.out.mono HB0.out.size)).grown hgr (by simp; omega) (fun j hj => by simp [Value.ownBlock] at hj; omega)
  clear HX0 HR0 HB0
  clear hown hgr HO HL HA hl
  have cX_0 := HX1.out.cell 0 rfl
  have cX_1 := HX1.out.cell 1 rfl
  have cX_2 := HX1.out.cell 2 rfl
  have cX_3 := HX1.out.cell 3 rfl
  have cX_4 := HX1.out.cell 4 rfl
  have cX_5 := HX1.out.cell 5 rfl
  have cX_6 := HX1.out.cell 6 rfl
  have cX_7 := HX1.out.cell 7 rfl
  have cX_8 := HX1.out.cell 8 rfl
  have cX_9 := HX1.out.cell 9 rfl
  have cX_10 := HX1.out.cell 10 rfl
  have zX := fun j => HX1.out.frozen j
  have KX := (HX1.out.set 10 (.slice qa o.length qc))
  have KR := (HR1.out.other 10 (.slice qa o.length qc) (show (w.heap.size + 1) ≠ w.heap.size by omega))
  have KB := (HB1.out.setCell (p := ⟨w.heap.size, 10, none⟩) (show w.heap.size ≤ w.heap.size by omega) (.slice qa o.length qc))
  have KG : Hid (w2.grownBy (w2.setCell ⟨w.heap.size, 10, none⟩ (.slice qa o.length qc)) (some w.heap.size)) := grown_set (grown_refl _ _) _
  have KQ : Hid (OwnY (w2.setCell ⟨w.heap.size, 10, none⟩ (.slice qa o.length qc)) W0.heap.size (.slice qa o.length qc) o) := own_still HQ0.out KG.out (fun j e => by injection e with e; omega)
  go_upto_region 2 with fail
  clear cX_0 cX_1 cX_2 cX_3 cX_4 cX_5 cX_6 cX_7 cX_8 cX_9 cX_10 zX
  generalize ((w2.setCell _ _) : World) = w3 at *
  have HX2 : Hid (Blk w3 w.heap.size [.int .i64 v, .int .i64 dh, .int .i64 dr, .int .i64 ds, .string di, .int .i64 mh, .int .i64 mr, .int .i64 ms, .string mi, .bool p, .slice qa o.length qc] 29) := KX
  have HR2 : Hid (Blk w3 (w.heap.size + 1) [.int .i64 0, .int .i64 0, .int .i64 0, .int .i64 0, .string ⟨#[]⟩, .int .i64 0, .int .i64 0, .int .i64 0, .string ⟨#[]⟩, .bool false, .slice none 0 0] 29) := KR
  have HQ2 : Hid (OwnY w3 W0.heap.size (.slice qa o.length qc) o) := KQ
  have HB2 : Hid (Below w.heap.size w w3) := KB
  clear KX KR KB KG KQ HX1 HR1 HB1 HQ0
  have cX_0 := HX2.out.cell 0 rfl
  have cX_1 := HX2.out.cell 1 rfl
  have cX_2 := HX2.out.cell 2 rfl
  have cX_3 := HX2.out.cell 3 rfl
  have cX_4 := HX2.out.cell 4 rfl
  have cX_5 := HX2.out.cell 5 rfl
  have cX_6 := HX2.out.cell 6 rfl
  have cX_7 := HX2.out.cell 7 rfl
  have cX_8 := HX2.out.cell 8 rfl
  have cX_9 := HX2.out.cell 9 rfl
  have cX_10 := HX2.out.cell 10 rfl
  have cR_0 := HR2.out.cell 0 rfl
  have cR_1 := HR2.out.cell 1 rfl
  have cR_2 := HR2.out.cell 2 rfl
  have cR_3 := HR2.out.cell 3 rfl
  have cR_4 := HR2.out.cell 4 rfl
  have cR_5 := HR2.out.cell 5 rfl
  have cR_6 := HR2.out.cell 6 rfl
  have cR_7 := HR2.out.cell 7 rfl
  have cR_8 := HR2.out.cell 8 rfl
  have cR_9 := HR2.out.cell 9 rfl
  have cR_10 := HR2.out.cell 10 rfl
  have zR := fun j => HR2.out.frozen j
  have KX := (((((((((((HX2.out.other 0 (.int .i64 v) (show w.heap.size ≠ (w.heap.size + 1) by omega)).other 1 (.int .i64 dh) (show w.heap.size ≠ (w.heap.size + 1) by omega)).other 2 (.int .i64 dr) (show w.heap.size ≠ (w.heap.size + 1) by omega)).other 3 (.int .i64 ds) (show w.heap.size ≠ (w.heap.size + 1) by omega)).other 4 (.string di) (show w.heap.size ≠ (w.heap.size + 1) by omega)).other 5 (.int .i64 mh) (show w.heap.size ≠ (w.heap.size + 1) by omega)).other 6 (.int .i64 mr) (show w.heap.size ≠ (w.heap.size + 1) by omega)).other 7 (.int .i64 ms) (show w.heap.size ≠ (w.heap.size + 1) by omega)).other 8 (.string mi) (show w.heap.size ≠ (w.heap.size + 1) by omega)).other 9 (.bool p) (show w.heap.size ≠ (w.heap.size + 1) by omega)).other 10 (.slice qa o.length qc) (show w.heap.size ≠ (w.heap.size + 1) by omega))
  have KR := (((((((((((HR2.out.set 0 (.int .i64 v)).set 1 (.int .i64 dh)).set 2 (.int .i64 dr)).set 3 (.int .i64 ds)).set 4 (.string di)).set 5 (.int .i64 mh)).set 6 (.int .i64 mr)).set 7 (.int .i64 ms)).set 8 (.string mi)).set 9 (.bool p)).set 10 (.slice qa o.length qc))
  have KB := (((((((((((HB2.out.setCell (p := ⟨(w.heap.size + 1), 0, none⟩) (show w.heap.size ≤ (w.heap.size + 1) by omega) (.int .i64 v)).setCell (p := ⟨(w.heap.size + 1), 1, none⟩) (show w.heap.size ≤ (w.heap.size + 1) by omega) (.int .i64 dh)).setCell (p := ⟨(w.heap.size + 1), 2, none⟩) (show w.heap.size ≤ (w.heap.size + 1) by omega) (.int .i64 dr)).setCell (p := ⟨(w.heap.size + 1), 3, none⟩) (show w.heap.size ≤ (w.heap.size + 1) by omega) (.int .i64 ds)).setCell (p := ⟨(w.heap.size + 1), 4, none⟩) (show w.heap.size ≤ (w.heap.size + 1) by omega) (.string di)).setCell (p := ⟨(w.heap.size + 1), 5, none⟩) (show w.heap.size ≤ (w.heap.size + 1) by omega) (.int .i64 mh)).setCell (p := ⟨(w.heap.size + 1), 6, none⟩) (show w.heap.size ≤ (w.heap.size + 1) by omega) (.int .i64 mr)).setCell (p := ⟨(w.heap.size + 1), 7, none⟩) (show w.heap.size ≤ (w.heap.size + 1) by omega) (.int .i64 ms)).setCell (p := ⟨(w.heap.size + 1), 8, none⟩) (show w.heap.size ≤ (w.heap.size + 1) by omega) (.string mi)).setCell (p := ⟨(w.heap.size + 1), 9, none⟩) (show w.heap.size ≤ (w.heap.size + 1) by omega) (.bool p)).setCell (p := ⟨(w.heap.size + 1), 10, none⟩) (show w.heap.size ≤ (w.heap.size + 1) by omega) (.slice qa o.length qc))
  have KG : Hid (w3.grownBy (((((((((((w3.setCell ⟨(w.heap.size + 1), 0, none⟩ (.int .i64 v)).setCell ⟨(w.heap.size + 1), 1, none⟩ (.int .i64 dh)).setCell ⟨(w.heap.size + 1), 2, none⟩ (.int .i64 dr)).setCell ⟨(w.heap.size + 1), 3, none⟩ (.int .i64 ds)).setCell ⟨(w.heap.size + 1), 4, none⟩ (.string di)).setCell ⟨(w.heap.size + 1), 5, none⟩ (.int .i64 mh)).setCell ⟨(w.heap.size + 1), 6, none⟩ (.int .i64 mr)).setCell ⟨(w.heap.size + 1), 7, none⟩ (.int .i64 ms)).setCell ⟨(w.heap.size + 1), 8, none⟩ (.string mi)).setCell ⟨(w.heap.size + 1), 9, none⟩ (.bool p)).setCell ⟨(w.heap.size + 1), 10, none⟩ (.slice qa o.length qc)) (some (w.heap.size + 1))) := grown_set (grown_set (grown_set (grown_set (grown_set (grown_set (grown_set (grown_set (grown_set (grown_set (grown_set (grown_refl _ _) _) _) _) _) _) _) _) _) _) _) _
  have KQ : Hid (OwnY (((((((((((w3.setCell ⟨(w.heap.size + 1), 0, none⟩ (.int .i64 v)).setCell ⟨(w.heap.size + 1), 1, none⟩ (.int .i64 dh)).setCell ⟨(w.heap.size + 1), 2, none⟩ (.int .i64 dr)).setCell ⟨(w.heap.size + 1), 3, none⟩ (.int .i64 ds)).setCell ⟨(w.heap.size + 1), 4, none⟩ (.string di)).setCell ⟨(w.heap.size + 1), 5, none⟩ (.int .i64 mh)).setCell ⟨(w.heap.size + 1), 6, none⟩ (.int .i64 mr)).setCell ⟨(w.heap.size + 1), 7, none⟩ (.int .i64 ms)).setCell ⟨(w.heap.size + 1), 8, none⟩ (.string mi)).setCell ⟨(w.heap.size + 1), 9, none⟩ (.bool p)).setCell ⟨(w.heap.size + 1), 10, none⟩ (.slice qa o.length qc)) W0.heap.size (.slice qa o.length qc) o) := own_still HQ2.out KG.out (fun j e => by injection e with e; omega)
  go_wp2_with fail
  clear cX_0 cX_1 cX_2 cX_3 cX_4 cX_5 cX_6 cX_7 cX_8 cX_9 cX_10 cR_0 cR_1 cR_2 cR_3 cR_4 cR_5 cR_6 cR_7 cR_8 cR_9 cR_10 zR
  generalize ((((((((((((w3.setCell _ _).setCell _ _).setCell _ _).setCell _ _).setCell _ _).setCell _ _).setCell _ _).setCell _ _).setCell _ _).setCell _ _).setCell _ _) : World) = w4 at *
  have HX3 : Hid (Blk w4 w.heap.size [.int .i64 v, .int .i64 dh, .int .i64 dr, .int .i64 ds, .string di, .int .i64 mh, .int .i64 mr, .int .i64 ms, .string mi, .bool p, .slice qa o.length qc] 29) := KX
  have HR3 : Hid (Blk w4 (w.heap.size + 1) [.int .i64 v, .int .i64 dh, .int .i64 dr, .int .i64 ds, .string di, .int .i64 mh, .int .i64 mr, .int .i64 ms, .string mi, .bool p, .slice qa o.length qc] 29) := KR
  have HQ3 : Hid (OwnY w4 W0.heap.size (.slice qa o.length qc) o) := KQ
  have HB3 : Hid (Below w.heap.size w w4) := KB
  clear KX KR KB KG KQ HX2 HR2 HB2 HQ2
  have y0 := HR3.out.cell 0 rfl
  have y1 := HR3.out.cell 1 rfl
  have y2 := HR3.out.cell 2 rfl
  have y3 := HR3.out.cell 3 rfl
  have y4 := HR3.out.cell 4 rfl
  have y5 := HR3.out.cell 5 rfl
  have y6 := HR3.out.cell 6 rfl
  have y7 := HR3.out.cell 7 rfl
  have y8 := HR3.out.cell 8 rfl
  have y9 := HR3.out.cell 9 rfl
  have y10 := HR3.out.cell 10 rfl
  refine bodyPost_ret (v := .agg #[.int .i64 v, .int .i64 dh, .int .i64 dr, .int .i64 ds, .string di, .int .i64 mh, .int .i64 mr, .int .i64 ms, .string mi, .bool p, .slice qa o.length qc]) (by simp [results, Try.results40, go_sem, y0, y1, y2, y3, y4, y5, y6, y7, y8, y9, y10]) rfl ⟨_, rfl, own_less HQ3.out (by omega), HB3.out⟩
end Go.Proofs.Ytmjlpdmdpagggaa
