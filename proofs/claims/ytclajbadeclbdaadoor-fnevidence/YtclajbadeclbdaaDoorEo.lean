/- What the small functions of chapter 12 answer, on both sides; old memory stays. Conditions: the table of the hash. -/
import Derived.Test.YtclajbadeclbdaaDoorEv
import Derived.Test.YtclajbadeclbdaaDoorSi
import Derived.Deep.RegionHeld3
namespace Go.Proofs.YtclajbadeclbdaaDoor
open Go.RowKit
open Num
set_option linter.unusedVariables false
def yLs (y : Sv) : List Value := [.int .i64 y.x.h, .int .i64 y.x.r, .int .i64 y.x.s, .string y.x.i, .int .i64 y.x.v, .string y.s]
def yV (y : Sv) : Value := .agg #[.int .i64 y.x.h, .int .i64 y.x.r, .int .i64 y.x.s, .string y.x.i, .int .i64 y.x.v, .string y.s]
def eLs (a b : Sv) : List Value := [.int .i64 a.x.h, .int .i64 a.x.r, .int .i64 a.x.s, .string a.x.i, .int .i64 a.x.v, .string a.s, .int .i64 b.x.h, .int .i64 b.x.r, .int .i64 b.x.s, .string b.x.i, .int .i64 b.x.v, .string b.s]
def eV (a b : Sv) : Value := .agg #[.int .i64 a.x.h, .int .i64 a.x.r, .int .i64 a.x.s, .string a.x.i, .int .i64 a.x.v, .string a.s, .int .i64 b.x.h, .int .i64 b.x.r, .int .i64 b.x.s, .string b.x.i, .int .i64 b.x.v, .string b.s]
theorem below_two (w : World) (o o' : Obj) : Below w.heap.size w ((w.alloc o).alloc o') := ((Below.refl _ _).alloc (Nat.le_refl _) _).alloc (by simp) _
theorem below_one (w : World) (o : Obj) : Below w.heap.size w (w.alloc o) := (Below.refl _ _).alloc (Nat.le_refl _) _
theorem grown_of {w w' : World} {r : Option Nat} (h : Below w.heap.size w w') : w.grownBy w' r := ⟨h.os, h.tape, h.output, h.size, fun k hk _ => h.block k hk⟩
/-- Each second vote is evidence with its first. -/
def SF (F : List Ent) : Prop := ∀ e ∈ F, ∀ b, e.2 = some b → evB e.1 b = true
theorem SF.nil : SF [] := fun e he => by cases he
theorem SF.step {F : List Ent} (h : SF F) (s : Sv) : SF (stepE F s) := by
  cases hs : sgB s with
  | false => rw [stepE_no hs]; exact h
  | true =>
    cases hi : inF F s.x with
    | true =>
      rw [stepE_old hs hi]
      intro e he b hb
      obtain ⟨e0, h0, rfl⟩ := List.mem_map.1 he
      rw [upd_fst]
      unfold upd at hb
      cases hc : e0.2.isNone && evB e0.1 s with
      | false => rw [hc] at hb; exact h e0 h0 b hb
      | true =>
        rw [hc] at hb
        injection hb with hb
        subst hb
        rw [Bool.and_eq_true] at hc; exact hc.2
    | false =>
      rw [stepE_new hs hi]
      intro e he b hb
      rcases List.mem_append.1 he with he | he
      · exact h e he b hb
      · rw [List.mem_singleton] at he; subst he; cases hb
theorem SF.fold : ∀ {l : List Sv} {F : List Ent}, SF F → SF (l.foldl stepE F)
  | [], _, h => h
  | s :: r, _, h => SF.fold (l := r) (h.step s)
theorem evs_two (l : List Sv) : SF (evs l) := SF.fold SF.nil
theorem SF.pos {F : List Ent} (h : SF F) {e : Ent} (he : e ∈ F) : ∀ b, e.2 = some b → 1 ≤ b.x.h := fun b hb => sgB_pos (evB_iff.1 (h e he b hb)).2.1
set_option maxHeartbeats 800000 in
set_option maxRecDepth 100000 in
theorem impl_sgd (y : Sv) (w : World) (hT : Tab w) :
    Calls Tryd.prog 40 #[yV y] w fun e w' => e = .returned (.bool (sgB y)) ∧ Below w.heap.size w w' := by
  have HTa : Hid (Tab w) := hT
  have kS := fun W (hT : Tab W) => impl_sd y.x y.s W hT
  clear hT
  unfold sgB
  generalize sdB y.x y.s = t at *
  obtain ⟨⟨h, r, s, i, v⟩, g⟩ := y
  unfold yV
  unfold tV at kS
  simp only at kS ⊢
  have HB : Hid (Below w.heap.size w (w.alloc (.cells #[.int .i64 h, .int .i64 r, .int .i64 s, .string i, .int .i64 v, .string g] 32))) := below_one _ _
  go_enter Tryd.func40, Tryd.ntmps40
  go_wp2_with fail
  refine (kS _ (HTa.out.below HB.out HTa.out.pos)).mono ?_
  rintro e w1 ⟨rfl, b1⟩
  have HB1 : Hid (Below w.heap.size w w1) := HB.out.trans (b1.mono HB.out.size)
  go_wp2
  go_ret
  exact ⟨rfl, HB1.out⟩
def pV (x : Vt) : Value := .agg #[.int .i64 x.h, .int .i64 x.r, .int .i64 x.s, .int .i64 x.v]
set_option maxHeartbeats 400000 in
set_option maxRecDepth 100000 in
theorem impl_place (x : Vt) (w : World) :
    Calls Tryd.prog 41 #[tV x] w fun e w' => e = .returned (pV x) ∧ Below w.heap.size w w' := by
  obtain ⟨h, r, s, i, v⟩ := x
  unfold tV pV
  simp only
  go_enter Tryd.func41, Tryd.ntmps41
  go_wp2
  refine bodyPost_ret (v := .agg #[.int .i64 h, .int .i64 r, .int .i64 s, .int .i64 v]) (by simp [results, Tryd.results41, go_sem]) rfl ⟨rfl, ?_⟩
  first | exact below_two _ _ _ | exact below_one _ _
theorem stoodP : Tryd.prog.stoodInHeld 71 = false := by kernel_rfl
theorem guardP : Tryd.prog.eqGuardType Tryd.prog.depth 71 = false := by kernel_rfl
theorem fieldsP : Tryd.prog.underlying 71 = some (.struct (Tryd.prog.fieldsOf 71)) := by
  unfold Program.fieldsOf; rw [Tryd.underlying71]
theorem run_eqP (a b : Vt) (w : World) :
    (binOp .eql 71 (.agg #[.int .i64 a.h, .int .i64 a.r, .int .i64 a.s, .int .i64 a.v]) (.agg #[.int .i64 b.h, .int .i64 b.r, .int .i64 b.s, .int .i64 b.v])).run Tryd.prog w = .ok (.bool (plc a b)) w := by
  rw [run_eql_struct, run_equalIn_agg w 9999 71 _ _ fieldsP stoodP]
  obtain ⟨h, r, s, i, v⟩ := a
  obtain ⟨h', r', s', i', v'⟩ := b
  unfold plc
  simp [go_sem, Program.fieldsOf, Tryd.underlying71, Tryd.underlying3, Op.eqFields]
  by_cases e1 : h = h' <;> by_cases e2 : r = r' <;> by_cases e3 : s = s' <;> by_cases e4 : v = v' <;> simp [e1, e2, e3, e4]
theorem stoodY : Tryd.prog.stoodInHeld 32 = false := by kernel_rfl
theorem guardY : Tryd.prog.eqGuardType Tryd.prog.depth 32 = false := by kernel_rfl
theorem fieldsY : Tryd.prog.underlying 32 = some (.struct (Tryd.prog.fieldsOf 32)) := by
  unfold Program.fieldsOf; rw [Tryd.underlying32]
theorem run_eqZ (h r s v : Int) (i g : ByteArray) (w : World) (t : Bool) (ht : (t = true ∧ h = 0 ∧ r = 0 ∧ s = 0 ∧ i = ⟨#[]⟩ ∧ v = 0 ∧ g = ⟨#[]⟩) ∨ (t = false ∧ 1 ≤ h)) :
    (binOp .eql 32 (.agg #[.int .i64 h, .int .i64 r, .int .i64 s, .string i, .int .i64 v, .string g]) (.agg #[.int .i64 0, .int .i64 0, .int .i64 0, .string ⟨#[]⟩, .int .i64 0, .string ⟨#[]⟩])).run Tryd.prog w = .ok (.bool t) w := by
  rw [run_eql_struct, run_equalIn_agg w 9999 32 _ _ fieldsY stoodY]
  rcases ht with ⟨rfl, rfl, rfl, rfl, rfl, rfl, rfl⟩ | ⟨rfl, hh⟩
  · simp [go_sem, Program.fieldsOf, Tryd.underlying32, Tryd.underlying30, Tryd.underlying3, Tryd.underlying9, Op.eqFields]
  · have e : ¬ h = 0 := by omega
    simp [go_sem, Program.fieldsOf, Tryd.underlying32, Tryd.underlying30, Tryd.underlying3, Tryd.underlying9, Op.eqFields, e]
set_option maxHeartbeats 800000 in
set_option maxRecDepth 100000 in
theorem impl_open (e : Ent) (he : ∀ b, e.2 = some b → 1 ≤ b.x.h) (w : World) :
    Calls Tryd.prog 48 #[eV e.1 (e.2.getD zSv)] w fun x w' => x = .returned (.bool e.2.isNone) ∧ Below w.heap.size w w' := by
  have hg := guardY
  have hq := run_eqZ
  obtain ⟨⟨⟨h, r, s, i, v⟩, g⟩, b⟩ := e
  cases b with
  | none =>
    clear he
    have hq := fun W => run_eqZ 0 0 0 0 ⟨#[]⟩ ⟨#[]⟩ W true (.inl ⟨rfl, rfl, rfl, rfl, rfl, rfl, rfl⟩)
    show Calls Tryd.prog 48 #[.agg #[.int .i64 h, .int .i64 r, .int .i64 s, .string i, .int .i64 v, .string g, .int .i64 0, .int .i64 0, .int .i64 0, .string ⟨#[]⟩, .int .i64 0, .string ⟨#[]⟩]] w fun x w' => x = .returned (.bool true) ∧ Below w.heap.size w w'
    go_enter Tryd.func48, Tryd.ntmps48
    go_wp2
    go_ret
    exact ⟨rfl, below_one _ _⟩
  | some y =>
    have hh := he y rfl
    clear he
    obtain ⟨⟨h', r', s', i', v'⟩, g'⟩ := y
    simp only at hh
    have hq := fun W => run_eqZ h' r' s' v' i' g' W false (.inr ⟨rfl, hh⟩)
    show Calls Tryd.prog 48 #[.agg #[.int .i64 h, .int .i64 r, .int .i64 s, .string i, .int .i64 v, .string g, .int .i64 h', .int .i64 r', .int .i64 s', .string i', .int .i64 v', .string g']] w fun x w' => x = .returned (.bool false) ∧ Below w.heap.size w w'
    go_enter Tryd.func48, Tryd.ntmps48
    go_wp2
    go_ret
    exact ⟨rfl, below_one _ _⟩
set_option maxHeartbeats 400000 in
set_option maxRecDepth 100000 in
theorem impl_culpr (a b : Sv) (w : World) :
    Calls Tryd.prog 34 #[eV a b] w fun e w' => e = .returned (.int .i64 a.x.v) ∧ Below w.heap.size w w' := by
  obtain ⟨⟨h, r, s, i, v⟩, g⟩ := a
  obtain ⟨⟨h', r', s', i', v'⟩, g'⟩ := b
  unfold eV
  simp only
  go_enter Tryd.func34, Tryd.ntmps34
  go_wp2
  go_ret
  exact ⟨rfl, below_one _ _⟩
set_option maxHeartbeats 3200000 in
set_option maxRecDepth 100000 in
theorem impl_evok1 (a b : Sv) (w : World) (hT : Tab w) (hA : sgB a = false) :
    Calls Tryd.prog 18 #[eV a b] w fun e w' => e = .returned (.bool false) ∧ Below w.heap.size w w' := by
  have HTa : Hid (Tab w) := hT
  clear hT
  have HX : Hid (Blk (w.alloc (.cells (eLs a b).toArray 34)) w.heap.size (eLs a b) 34) := blk_new w _ _
  have HB : Hid (Below w.heap.size w (w.alloc (.cells (eLs a b).toArray 34))) := below_one _ _
  have kA := fun W (hT : Tab W) => impl_sgd a W hT
  have kB := fun W (hT : Tab W) => impl_sgd b W hT
  rw [hA] at kA
  clear hA
  clear kB
  unfold yV at kA
  obtain ⟨⟨h, r, s, i, v⟩, g⟩ := a
  obtain ⟨⟨h', r', s', i', v'⟩, g'⟩ := b
  unfold eV
  unfold eLs at HX HB
  try simp only at HX HB kA ⊢
  have HXS : Hid (∀ W, Blk W w.heap.size [Value.int .i64 h, Value.int .i64 r, Value.int .i64 s, Value.string i, Value.int .i64 v, Value.string g, Value.int .i64 h', Value.int .i64 r', Value.int .i64 s', Value.string i', Value.int .i64 v', Value.string g'] 34 → W.cell? ⟨w.heap.size, 0, none⟩ = some (Value.int .i64 h) ∧ W.cell? ⟨w.heap.size, 1, none⟩ = some (Value.int .i64 r) ∧ W.cell? ⟨w.heap.size, 2, none⟩ = some (Value.int .i64 s) ∧ W.cell? ⟨w.heap.size, 3, none⟩ = some (Value.string i) ∧ W.cell? ⟨w.heap.size, 4, none⟩ = some (Value.int .i64 v) ∧ W.cell? ⟨w.heap.size, 5, none⟩ = some (Value.string g) ∧ W.cell? ⟨w.heap.size, 6, none⟩ = some (Value.int .i64 h') ∧ W.cell? ⟨w.heap.size, 7, none⟩ = some (Value.int .i64 r') ∧ W.cell? ⟨w.heap.size, 8, none⟩ = some (Value.int .i64 s') ∧ W.cell? ⟨w.heap.size, 9, none⟩ = some (Value.string i') ∧ W.cell? ⟨w.heap.size, 10, none⟩ = some (Value.int .i64 v') ∧ W.cell? ⟨w.heap.size, 11, none⟩ = some (Value.string g')) := fun W H => ⟨H.cell 0 rfl, H.cell 1 rfl, H.cell 2 rfl, H.cell 3 rfl, H.cell 4 rfl, H.cell 5 rfl, H.cell 6 rfl, H.cell 7 rfl, H.cell 8 rfl, H.cell 9 rfl, H.cell 10 rfl, H.cell 11 rfl⟩
  go_enter Tryd.func18, Tryd.ntmps18
  go_wp2_with fail
  generalize w.alloc (Obj.cells #[Value.int .i64 h, Value.int .i64 r, Value.int .i64 s, Value.string i, Value.int .i64 v, Value.string g, Value.int .i64 h', Value.int .i64 r', Value.int .i64 s', Value.string i', Value.int .i64 v', Value.string g'] 34) = w0 at *
  have HT0 : Hid (Tab w0) := HTa.out.below HB.out HTa.out.pos
  have HX0 : Hid (Blk w0.drew w.heap.size [Value.int .i64 h, Value.int .i64 r, Value.int .i64 s, Value.string i, Value.int .i64 v, Value.string g, Value.int .i64 h', Value.int .i64 r', Value.int .i64 s', Value.string i', Value.int .i64 v', Value.string g'] 34) := HX.out
  have HB0 : Hid (Below w.heap.size w w0.drew) := HB.out.drew
  have HTd : Hid (Tab w0.drew) := HT0.out.below (Below.refl _ _).drew HT0.out.pos
  clear HX HB HT0
  refine wp_region_held_drew (S := (fun W : World => W.cell? ⟨w.heap.size, 0, none⟩ = some (Value.int .i64 h) ∧ W.cell? ⟨w.heap.size, 1, none⟩ = some (Value.int .i64 r) ∧ W.cell? ⟨w.heap.size, 2, none⟩ = some (Value.int .i64 s) ∧ W.cell? ⟨w.heap.size, 3, none⟩ = some (Value.string i) ∧ W.cell? ⟨w.heap.size, 4, none⟩ = some (Value.int .i64 v) ∧ W.cell? ⟨w.heap.size, 5, none⟩ = some (Value.string g) ∧ W.cell? ⟨w.heap.size, 6, none⟩ = some (Value.int .i64 h') ∧ W.cell? ⟨w.heap.size, 7, none⟩ = some (Value.int .i64 r') ∧ W.cell? ⟨w.heap.size, 8, none⟩ = some (Value.int .i64 s') ∧ W.cell? ⟨w.heap.size, 9, none⟩ = some (Value.string i') ∧ W.cell? ⟨w.heap.size, 10, none⟩ = some (Value.int .i64 v') ∧ W.cell? ⟨w.heap.size, 11, none⟩ = some (Value.string g'))) (by kernel_rfl) ?_ (fun hHeld => ?_)
  · exact HXS.out _ HX0.out
  refine wpAnyH_take (i := 0) (oi := { dst := some 3, op := Go.Op.fieldAddr 34 (Go.Operand.tmp 1) 0, type := 0, pos := "l12_evid.go:78", after := #[], guard := none }) (v := ?_) rfl (by kernel_rfl) (by kernel_rfl) (by kernel_rfl) (fun _ _ _ h => h) (Or.inl ⟨by rfl, ?_⟩) hHeld ?_
  rotate_left
  · intro w hSw
    try dsimp only at hSw
    go_simp
    try (with_reducible rfl)
  simp only [Act.put, List.setIfInBounds_toArray, List.set_cons_zero, List.set_cons_succ]
  refine wpAnyH_take (i := 1) (oi := { dst := some 4, op := Go.Op.load 32 (Go.Operand.tmp 3), type := 32, pos := "l12_evid.go:78", after := #[{ on := 0, ground := Go.Ground.data }], guard := none }) (v := ?_) rfl (by kernel_rfl) (by kernel_rfl) (by kernel_rfl) (fun _ _ _ h => h) (Or.inl ⟨by rfl, ?_⟩) hHeld ?_
  rotate_left
  · intro w hSw
    try dsimp only at hSw
    go_simp
    try (with_reducible rfl)
  simp only [Act.put, List.setIfInBounds_toArray, List.set_cons_zero, List.set_cons_succ]
  refine wpAnyH_ready (rs := [2]) (by kernel_rfl) (by decide) ?_
  refine AllReadyH.cons (o := { dst := some 5, op := Go.Op.call { callee := Go.Callee.value (Go.Operand.func 40), args := #[Go.Operand.tmp 4], argTypes := #[32] }, type := 4, pos := "l12_evid.go:78", after := #[{ on := 1, ground := Go.Ground.data }], guard := none }) rfl (fun K hK => ?_) AllReadyH.nil
  go_simp
  refine (kA _ (HTa.out.below HB0.out HTa.out.pos)).mono ?_; rintro e w1 ⟨rfl, b1⟩; have HX1 : Hid (Blk w1 w.heap.size [Value.int .i64 h, Value.int .i64 r, Value.int .i64 s, Value.string i, Value.int .i64 v, Value.string g, Value.int .i64 h', Value.int .i64 r', Value.int .i64 s', Value.string i', Value.int .i64 v', Value.string g'] 34) := HX0.out.below b1 HX0.out.lt; have HB1 : Hid (Below w.heap.size w w1) := HB0.out.trans (b1.mono HB0.out.size)
  refine hK.out _ _ (HXS.out _ HX1.out) (fun hHeld => ?_)
  clear hK K
  refine wpAnyH_take (i := 3) (oi := { dst := some 6, op := Go.Op.move (Go.Operand.tmp 5), type := 4, pos := "l12_evid.go:78", after := #[{ on := 2, ground := Go.Ground.data }, { on := 2, ground := Go.Ground.chain }], guard := none }) (v := ?_) rfl (by kernel_rfl) (by kernel_rfl) (by kernel_rfl) (fun _ _ _ h => h) (Or.inl ⟨by rfl, ?_⟩) hHeld ?_
  rotate_left
  · intro w hSw
    try dsimp only at hSw
    go_simp
    try (with_reducible rfl)
  simp only [Act.put, List.setIfInBounds_toArray, List.set_cons_zero, List.set_cons_succ]
  refine wpAnyH_take (i := 4) (oi := { dst := some 7, op := Go.Op.fieldAddr 34 (Go.Operand.tmp 1) 1, type := 0, pos := "l12_evid.go:78", after := #[{ on := 3, ground := Go.Ground.guard }], guard := some (3, true) }) (v := undef) rfl (by kernel_rfl) (by kernel_rfl) (by kernel_rfl) (fun _ _ _ h => h) (Or.inr ⟨by rfl, rfl⟩) hHeld ?_
  simp only [Act.put, List.setIfInBounds_toArray, List.set_cons_zero, List.set_cons_succ]
  refine wpAnyH_take (i := 5) (oi := { dst := some 8, op := Go.Op.load 32 (Go.Operand.tmp 7), type := 32, pos := "l12_evid.go:78", after := #[{ on := 4, ground := Go.Ground.data }, { on := 3, ground := Go.Ground.guard }], guard := some (3, true) }) (v := undef) rfl (by kernel_rfl) (by kernel_rfl) (by kernel_rfl) (fun _ _ _ h => h) (Or.inr ⟨by rfl, rfl⟩) hHeld ?_
  simp only [Act.put, List.setIfInBounds_toArray, List.set_cons_zero, List.set_cons_succ]
  refine wpAnyH_take (i := 6) (oi := { dst := some 9, op := Go.Op.call { callee := Go.Callee.value (Go.Operand.func 40), args := #[Go.Operand.tmp 8], argTypes := #[32] }, type := 4, pos := "l12_evid.go:78", after := #[{ on := 5, ground := Go.Ground.data }, { on := 3, ground := Go.Ground.chain }, { on := 3, ground := Go.Ground.guard }], guard := some (3, true) }) (v := undef) rfl (by kernel_rfl) (by kernel_rfl) (by kernel_rfl) (fun _ _ _ h => h) (Or.inr ⟨by rfl, rfl⟩) hHeld ?_
  simp only [Act.put, List.setIfInBounds_toArray, List.set_cons_zero, List.set_cons_succ]
  refine wpAnyH_take (i := 7) (oi := { dst := some 10, op := Go.Op.pick (Go.Operand.tmp 6) (Go.Operand.tmp 9) (Go.Operand.const (Go.Value.bool false)), type := 4, pos := "l12_evid.go:78", after := #[{ on := 3, ground := Go.Ground.data }, { on := 6, ground := Go.Ground.data }], guard := none }) (v := ?_) rfl (by kernel_rfl) (by kernel_rfl) (by kernel_rfl) (fun _ _ _ h => h) (Or.inl ⟨by rfl, ?_⟩) hHeld ?_
  rotate_left
  · intro w hSw
    try dsimp only at hSw
    go_simp
    try (with_reducible rfl)
  simp only [Act.put, List.setIfInBounds_toArray, List.set_cons_zero, List.set_cons_succ]
  refine wpAnyH_take (i := 8) (oi := { dst := some 11, op := Go.Op.move (Go.Operand.tmp 10), type := 4, pos := "l12_evid.go:78", after := #[{ on := 7, ground := Go.Ground.data }, { on := 6, ground := Go.Ground.chain }], guard := none }) (v := ?_) rfl (by kernel_rfl) (by kernel_rfl) (by kernel_rfl) (fun _ _ _ h => h) (Or.inl ⟨by rfl, ?_⟩) hHeld ?_
  rotate_left
  · intro w hSw
    try dsimp only at hSw
    go_simp
    try (with_reducible rfl)
  simp only [Act.put, List.setIfInBounds_toArray, List.set_cons_zero, List.set_cons_succ]
  refine wpAnyH_take (i := 9) (oi := { dst := some 12, op := Go.Op.fieldAddr 34 (Go.Operand.tmp 1) 0, type := 0, pos := "l12_evid.go:78", after := #[{ on := 8, ground := Go.Ground.guard }], guard := some (8, true) }) (v := undef) rfl (by kernel_rfl) (by kernel_rfl) (by kernel_rfl) (fun _ _ _ h => h) (Or.inr ⟨by rfl, rfl⟩) hHeld ?_
  simp only [Act.put, List.setIfInBounds_toArray, List.set_cons_zero, List.set_cons_succ]
  refine wpAnyH_take (i := 10) (oi := { dst := some 13, op := Go.Op.fieldAddr 32 (Go.Operand.tmp 12) 0, type := 0, pos := "l12_evid.go:78", after := #[{ on := 9, ground := Go.Ground.data }, { on := 8, ground := Go.Ground.guard }], guard := some (8, true) }) (v := undef) rfl (by kernel_rfl) (by kernel_rfl) (by kernel_rfl) (fun _ _ _ h => h) (Or.inr ⟨by rfl, rfl⟩) hHeld ?_
  simp only [Act.put, List.setIfInBounds_toArray, List.set_cons_zero, List.set_cons_succ]
  refine wpAnyH_take (i := 11) (oi := { dst := some 14, op := Go.Op.load 30 (Go.Operand.tmp 13), type := 30, pos := "l12_evid.go:78", after := #[{ on := 10, ground := Go.Ground.data }, { on := 8, ground := Go.Ground.guard }], guard := some (8, true) }) (v := undef) rfl (by kernel_rfl) (by kernel_rfl) (by kernel_rfl) (fun _ _ _ h => h) (Or.inr ⟨by rfl, rfl⟩) hHeld ?_
  simp only [Act.put, List.setIfInBounds_toArray, List.set_cons_zero, List.set_cons_succ]
  refine wpAnyH_take (i := 13) (oi := { dst := some 16, op := Go.Op.fieldAddr 34 (Go.Operand.tmp 1) 1, type := 0, pos := "l12_evid.go:78", after := #[{ on := 8, ground := Go.Ground.guard }], guard := some (8, true) }) (v := undef) rfl (by kernel_rfl) (by kernel_rfl) (by kernel_rfl) (fun _ _ _ h => h) (Or.inr ⟨by rfl, rfl⟩) hHeld ?_
  simp only [Act.put, List.setIfInBounds_toArray, List.set_cons_zero, List.set_cons_succ]
  refine wpAnyH_take (i := 14) (oi := { dst := some 17, op := Go.Op.fieldAddr 32 (Go.Operand.tmp 16) 0, type := 0, pos := "l12_evid.go:78", after := #[{ on := 13, ground := Go.Ground.data }, { on := 8, ground := Go.Ground.guard }], guard := some (8, true) }) (v := undef) rfl (by kernel_rfl) (by kernel_rfl) (by kernel_rfl) (fun _ _ _ h => h) (Or.inr ⟨by rfl, rfl⟩) hHeld ?_
  simp only [Act.put, List.setIfInBounds_toArray, List.set_cons_zero, List.set_cons_succ]
  refine wpAnyH_take (i := 15) (oi := { dst := some 18, op := Go.Op.load 30 (Go.Operand.tmp 17), type := 30, pos := "l12_evid.go:78", after := #[{ on := 14, ground := Go.Ground.data }, { on := 8, ground := Go.Ground.guard }], guard := some (8, true) }) (v := undef) rfl (by kernel_rfl) (by kernel_rfl) (by kernel_rfl) (fun _ _ _ h => h) (Or.inr ⟨by rfl, rfl⟩) hHeld ?_
  simp only [Act.put, List.setIfInBounds_toArray, List.set_cons_zero, List.set_cons_succ]
  refine wpAnyH_take (i := 12) (oi := { dst := some 15, op := Go.Op.call { callee := Go.Callee.value (Go.Operand.func 41), args := #[Go.Operand.tmp 14], argTypes := #[30] }, type := 71, pos := "l12_evid.go:78", after := #[{ on := 11, ground := Go.Ground.data }, { on := 8, ground := Go.Ground.chain }, { on := 8, ground := Go.Ground.guard }], guard := some (8, true) }) (v := undef) rfl (by kernel_rfl) (by kernel_rfl) (by kernel_rfl) (fun _ _ _ h => h) (Or.inr ⟨by rfl, rfl⟩) hHeld ?_
  simp only [Act.put, List.setIfInBounds_toArray, List.set_cons_zero, List.set_cons_succ]
  refine wpAnyH_take (i := 16) (oi := { dst := some 19, op := Go.Op.call { callee := Go.Callee.value (Go.Operand.func 41), args := #[Go.Operand.tmp 18], argTypes := #[30] }, type := 71, pos := "l12_evid.go:78", after := #[{ on := 15, ground := Go.Ground.data }, { on := 12, ground := Go.Ground.chain }, { on := 8, ground := Go.Ground.guard }], guard := some (8, true) }) (v := undef) rfl (by kernel_rfl) (by kernel_rfl) (by kernel_rfl) (fun _ _ _ h => h) (Or.inr ⟨by rfl, rfl⟩) hHeld ?_
  simp only [Act.put, List.setIfInBounds_toArray, List.set_cons_zero, List.set_cons_succ]
  refine wpAnyH_take (i := 17) (oi := { dst := some 20, op := Go.Op.binOp Go.BinOp.eql 71 (Go.Operand.tmp 15) (Go.Operand.tmp 19) 71, type := 4, pos := "l12_evid.go:78", after := #[{ on := 12, ground := Go.Ground.data }, { on := 16, ground := Go.Ground.data }, { on := 8, ground := Go.Ground.guard }], guard := some (8, true) }) (v := undef) rfl (by kernel_rfl) (by kernel_rfl) (by kernel_rfl) (fun _ _ _ h => h) (Or.inr ⟨by rfl, rfl⟩) hHeld ?_
  simp only [Act.put, List.setIfInBounds_toArray, List.set_cons_zero, List.set_cons_succ]
  refine wpAnyH_take (i := 18) (oi := { dst := some 21, op := Go.Op.pick (Go.Operand.tmp 11) (Go.Operand.tmp 20) (Go.Operand.const (Go.Value.bool false)), type := 4, pos := "l12_evid.go:78", after := #[{ on := 8, ground := Go.Ground.data }, { on := 17, ground := Go.Ground.data }], guard := none }) (v := ?_) rfl (by kernel_rfl) (by kernel_rfl) (by kernel_rfl) (fun _ _ _ h => h) (Or.inl ⟨by rfl, ?_⟩) hHeld ?_
  rotate_left
  · intro w hSw
    try dsimp only at hSw
    go_simp
    try (with_reducible rfl)
  simp only [Act.put, List.setIfInBounds_toArray, List.set_cons_zero, List.set_cons_succ]
  refine wpAnyH_take (i := 19) (oi := { dst := some 22, op := Go.Op.move (Go.Operand.tmp 21), type := 4, pos := "l12_evid.go:78", after := #[{ on := 18, ground := Go.Ground.data }, { on := 16, ground := Go.Ground.chain }], guard := none }) (v := ?_) rfl (by kernel_rfl) (by kernel_rfl) (by kernel_rfl) (fun _ _ _ h => h) (Or.inl ⟨by rfl, ?_⟩) hHeld ?_
  rotate_left
  · intro w hSw
    try dsimp only at hSw
    go_simp
    try (with_reducible rfl)
  simp only [Act.put, List.setIfInBounds_toArray, List.set_cons_zero, List.set_cons_succ]
  refine wpAnyH_take (i := 20) (oi := { dst := some 23, op := Go.Op.fieldAddr 34 (Go.Operand.tmp 1) 0, type := 0, pos := "l12_evid.go:78", after := #[{ on := 19, ground := Go.Ground.guard }], guard := some (19, true) }) (v := undef) rfl (by kernel_rfl) (by kernel_rfl) (by kernel_rfl) (fun _ _ _ h => h) (Or.inr ⟨by rfl, rfl⟩) hHeld ?_
  simp only [Act.put, List.setIfInBounds_toArray, List.set_cons_zero, List.set_cons_succ]
  refine wpAnyH_take (i := 21) (oi := { dst := some 24, op := Go.Op.fieldAddr 32 (Go.Operand.tmp 23) 0, type := 0, pos := "l12_evid.go:78", after := #[{ on := 20, ground := Go.Ground.data }, { on := 19, ground := Go.Ground.guard }], guard := some (19, true) }) (v := undef) rfl (by kernel_rfl) (by kernel_rfl) (by kernel_rfl) (fun _ _ _ h => h) (Or.inr ⟨by rfl, rfl⟩) hHeld ?_
  simp only [Act.put, List.setIfInBounds_toArray, List.set_cons_zero, List.set_cons_succ]
  refine wpAnyH_take (i := 22) (oi := { dst := some 25, op := Go.Op.fieldAddr 30 (Go.Operand.tmp 24) 3, type := 0, pos := "l12_evid.go:78", after := #[{ on := 21, ground := Go.Ground.data }, { on := 19, ground := Go.Ground.guard }], guard := some (19, true) }) (v := undef) rfl (by kernel_rfl) (by kernel_rfl) (by kernel_rfl) (fun _ _ _ h => h) (Or.inr ⟨by rfl, rfl⟩) hHeld ?_
  simp only [Act.put, List.setIfInBounds_toArray, List.set_cons_zero, List.set_cons_succ]
  refine wpAnyH_take (i := 23) (oi := { dst := some 26, op := Go.Op.load 9 (Go.Operand.tmp 25), type := 9, pos := "l12_evid.go:78", after := #[{ on := 22, ground := Go.Ground.data }, { on := 19, ground := Go.Ground.guard }], guard := some (19, true) }) (v := undef) rfl (by kernel_rfl) (by kernel_rfl) (by kernel_rfl) (fun _ _ _ h => h) (Or.inr ⟨by rfl, rfl⟩) hHeld ?_
  simp only [Act.put, List.setIfInBounds_toArray, List.set_cons_zero, List.set_cons_succ]
  refine wpAnyH_take (i := 24) (oi := { dst := some 27, op := Go.Op.fieldAddr 34 (Go.Operand.tmp 1) 1, type := 0, pos := "l12_evid.go:78", after := #[{ on := 19, ground := Go.Ground.guard }], guard := some (19, true) }) (v := undef) rfl (by kernel_rfl) (by kernel_rfl) (by kernel_rfl) (fun _ _ _ h => h) (Or.inr ⟨by rfl, rfl⟩) hHeld ?_
  simp only [Act.put, List.setIfInBounds_toArray, List.set_cons_zero, List.set_cons_succ]
  refine wpAnyH_take (i := 25) (oi := { dst := some 28, op := Go.Op.fieldAddr 32 (Go.Operand.tmp 27) 0, type := 0, pos := "l12_evid.go:78", after := #[{ on := 24, ground := Go.Ground.data }, { on := 19, ground := Go.Ground.guard }], guard := some (19, true) }) (v := undef) rfl (by kernel_rfl) (by kernel_rfl) (by kernel_rfl) (fun _ _ _ h => h) (Or.inr ⟨by rfl, rfl⟩) hHeld ?_
  simp only [Act.put, List.setIfInBounds_toArray, List.set_cons_zero, List.set_cons_succ]
  refine wpAnyH_take (i := 26) (oi := { dst := some 29, op := Go.Op.fieldAddr 30 (Go.Operand.tmp 28) 3, type := 0, pos := "l12_evid.go:78", after := #[{ on := 25, ground := Go.Ground.data }, { on := 19, ground := Go.Ground.guard }], guard := some (19, true) }) (v := undef) rfl (by kernel_rfl) (by kernel_rfl) (by kernel_rfl) (fun _ _ _ h => h) (Or.inr ⟨by rfl, rfl⟩) hHeld ?_
  simp only [Act.put, List.setIfInBounds_toArray, List.set_cons_zero, List.set_cons_succ]
  refine wpAnyH_take (i := 27) (oi := { dst := some 30, op := Go.Op.load 9 (Go.Operand.tmp 29), type := 9, pos := "l12_evid.go:78", after := #[{ on := 26, ground := Go.Ground.data }, { on := 19, ground := Go.Ground.guard }], guard := some (19, true) }) (v := undef) rfl (by kernel_rfl) (by kernel_rfl) (by kernel_rfl) (fun _ _ _ h => h) (Or.inr ⟨by rfl, rfl⟩) hHeld ?_
  simp only [Act.put, List.setIfInBounds_toArray, List.set_cons_zero, List.set_cons_succ]
  refine wpAnyH_take (i := 28) (oi := { dst := some 31, op := Go.Op.binOp Go.BinOp.neq 9 (Go.Operand.tmp 26) (Go.Operand.tmp 30) 9, type := 4, pos := "l12_evid.go:78", after := #[{ on := 23, ground := Go.Ground.data }, { on := 27, ground := Go.Ground.data }, { on := 19, ground := Go.Ground.guard }], guard := some (19, true) }) (v := undef) rfl (by kernel_rfl) (by kernel_rfl) (by kernel_rfl) (fun _ _ _ h => h) (Or.inr ⟨by rfl, rfl⟩) hHeld ?_
  simp only [Act.put, List.setIfInBounds_toArray, List.set_cons_zero, List.set_cons_succ]
  refine wpAnyH_take (i := 29) (oi := { dst := some 32, op := Go.Op.pick (Go.Operand.tmp 22) (Go.Operand.tmp 31) (Go.Operand.const (Go.Value.bool false)), type := 4, pos := "l12_evid.go:78", after := #[{ on := 19, ground := Go.Ground.data }, { on := 28, ground := Go.Ground.data }], guard := none }) (v := ?_) rfl (by kernel_rfl) (by kernel_rfl) (by kernel_rfl) (fun _ _ _ h => h) (Or.inl ⟨by rfl, ?_⟩) hHeld ?_
  rotate_left
  · intro w hSw
    try dsimp only at hSw
    go_simp
    try (with_reducible rfl)
  simp only [Act.put, List.setIfInBounds_toArray, List.set_cons_zero, List.set_cons_succ]
  refine wpAnyH_take (i := 30) (oi := { dst := some 2, op := Go.Op.assign (Go.Operand.tmp 32), type := 4, pos := "l12_evid.go:78", after := #[{ on := 29, ground := Go.Ground.data }, { on := 19, ground := Go.Ground.chain }, { on := 0, ground := Go.Ground.phase }, { on := 1, ground := Go.Ground.phase }, { on := 2, ground := Go.Ground.phase }, { on := 3, ground := Go.Ground.phase }, { on := 4, ground := Go.Ground.phase }, { on := 5, ground := Go.Ground.phase }, { on := 6, ground := Go.Ground.phase }, { on := 7, ground := Go.Ground.phase }, { on := 8, ground := Go.Ground.phase }, { on := 9, ground := Go.Ground.phase }, { on := 10, ground := Go.Ground.phase }, { on := 11, ground := Go.Ground.phase }, { on := 12, ground := Go.Ground.phase }, { on := 13, ground := Go.Ground.phase }, { on := 14, ground := Go.Ground.phase }, { on := 15, ground := Go.Ground.phase }, { on := 16, ground := Go.Ground.phase }, { on := 17, ground := Go.Ground.phase }, { on := 18, ground := Go.Ground.phase }, { on := 19, ground := Go.Ground.phase }, { on := 20, ground := Go.Ground.phase }, { on := 21, ground := Go.Ground.phase }, { on := 22, ground := Go.Ground.phase }, { on := 23, ground := Go.Ground.phase }, { on := 24, ground := Go.Ground.phase }, { on := 25, ground := Go.Ground.phase }, { on := 26, ground := Go.Ground.phase }, { on := 27, ground := Go.Ground.phase }, { on := 28, ground := Go.Ground.phase }, { on := 29, ground := Go.Ground.phase }], guard := none }) (v := ?_) rfl (by kernel_rfl) (by kernel_rfl) (by kernel_rfl) (fun _ _ _ h => h) (Or.inl ⟨by rfl, ?_⟩) hHeld ?_
  rotate_left
  · intro w hSw
    try dsimp only at hSw
    go_simp
    try (with_reducible rfl)
  simp only [Act.put, List.setIfInBounds_toArray, List.set_cons_zero, List.set_cons_succ]
  refine wpAnyH_done (by kernel_rfl) ?_ _
  go_wp2_with fail
  go_ret
  exact ⟨rfl, HB1.out⟩
set_option maxHeartbeats 3200000 in
set_option maxRecDepth 100000 in
theorem impl_evok2 (a b : Sv) (w : World) (hT : Tab w) (hA : sgB a = true) (hB : sgB b = false) :
    Calls Tryd.prog 18 #[eV a b] w fun e w' => e = .returned (.bool false) ∧ Below w.heap.size w w' := by
  have HTa : Hid (Tab w) := hT
  clear hT
  have HX : Hid (Blk (w.alloc (.cells (eLs a b).toArray 34)) w.heap.size (eLs a b) 34) := blk_new w _ _
  have HB : Hid (Below w.heap.size w (w.alloc (.cells (eLs a b).toArray 34))) := below_one _ _
  have kA := fun W (hT : Tab W) => impl_sgd a W hT
  have kB := fun W (hT : Tab W) => impl_sgd b W hT
  rw [hA] at kA
  clear hA
  rw [hB] at kB
  clear hB
  unfold yV at kA kB
  obtain ⟨⟨h, r, s, i, v⟩, g⟩ := a
  obtain ⟨⟨h', r', s', i', v'⟩, g'⟩ := b
  unfold eV
  unfold eLs at HX HB
  try simp only at HX HB kA kB ⊢
  have HXS : Hid (∀ W, Blk W w.heap.size [Value.int .i64 h, Value.int .i64 r, Value.int .i64 s, Value.string i, Value.int .i64 v, Value.string g, Value.int .i64 h', Value.int .i64 r', Value.int .i64 s', Value.string i', Value.int .i64 v', Value.string g'] 34 → W.cell? ⟨w.heap.size, 0, none⟩ = some (Value.int .i64 h) ∧ W.cell? ⟨w.heap.size, 1, none⟩ = some (Value.int .i64 r) ∧ W.cell? ⟨w.heap.size, 2, none⟩ = some (Value.int .i64 s) ∧ W.cell? ⟨w.heap.size, 3, none⟩ = some (Value.string i) ∧ W.cell? ⟨w.heap.size, 4, none⟩ = some (Value.int .i64 v) ∧ W.cell? ⟨w.heap.size, 5, none⟩ = some (Value.string g) ∧ W.cell? ⟨w.heap.size, 6, none⟩ = some (Value.int .i64 h') ∧ W.cell? ⟨w.heap.size, 7, none⟩ = some (Value.int .i64 r') ∧ W.cell? ⟨w.heap.size, 8, none⟩ = some (Value.int .i64 s') ∧ W.cell? ⟨w.heap.size, 9, none⟩ = some (Value.string i') ∧ W.cell? ⟨w.heap.size, 10, none⟩ = some (Value.int .i64 v') ∧ W.cell? ⟨w.heap.size, 11, none⟩ = some (Value.string g')) := fun W H => ⟨H.cell 0 rfl, H.cell 1 rfl, H.cell 2 rfl, H.cell 3 rfl, H.cell 4 rfl, H.cell 5 rfl, H.cell 6 rfl, H.cell 7 rfl, H.cell 8 rfl, H.cell 9 rfl, H.cell 10 rfl, H.cell 11 rfl⟩
  go_enter Tryd.func18, Tryd.ntmps18
  go_wp2_with fail
  generalize w.alloc (Obj.cells #[Value.int .i64 h, Value.int .i64 r, Value.int .i64 s, Value.string i, Value.int .i64 v, Value.string g, Value.int .i64 h', Value.int .i64 r', Value.int .i64 s', Value.string i', Value.int .i64 v', Value.string g'] 34) = w0 at *
  have HT0 : Hid (Tab w0) := HTa.out.below HB.out HTa.out.pos
  have HX0 : Hid (Blk w0.drew w.heap.size [Value.int .i64 h, Value.int .i64 r, Value.int .i64 s, Value.string i, Value.int .i64 v, Value.string g, Value.int .i64 h', Value.int .i64 r', Value.int .i64 s', Value.string i', Value.int .i64 v', Value.string g'] 34) := HX.out
  have HB0 : Hid (Below w.heap.size w w0.drew) := HB.out.drew
  have HTd : Hid (Tab w0.drew) := HT0.out.below (Below.refl _ _).drew HT0.out.pos
  clear HX HB HT0
  refine wp_region_held_drew (S := (fun W : World => W.cell? ⟨w.heap.size, 0, none⟩ = some (Value.int .i64 h) ∧ W.cell? ⟨w.heap.size, 1, none⟩ = some (Value.int .i64 r) ∧ W.cell? ⟨w.heap.size, 2, none⟩ = some (Value.int .i64 s) ∧ W.cell? ⟨w.heap.size, 3, none⟩ = some (Value.string i) ∧ W.cell? ⟨w.heap.size, 4, none⟩ = some (Value.int .i64 v) ∧ W.cell? ⟨w.heap.size, 5, none⟩ = some (Value.string g) ∧ W.cell? ⟨w.heap.size, 6, none⟩ = some (Value.int .i64 h') ∧ W.cell? ⟨w.heap.size, 7, none⟩ = some (Value.int .i64 r') ∧ W.cell? ⟨w.heap.size, 8, none⟩ = some (Value.int .i64 s') ∧ W.cell? ⟨w.heap.size, 9, none⟩ = some (Value.string i') ∧ W.cell? ⟨w.heap.size, 10, none⟩ = some (Value.int .i64 v') ∧ W.cell? ⟨w.heap.size, 11, none⟩ = some (Value.string g'))) (by kernel_rfl) ?_ (fun hHeld => ?_)
  · exact HXS.out _ HX0.out
  refine wpAnyH_take (i := 0) (oi := { dst := some 3, op := Go.Op.fieldAddr 34 (Go.Operand.tmp 1) 0, type := 0, pos := "l12_evid.go:78", after := #[], guard := none }) (v := ?_) rfl (by kernel_rfl) (by kernel_rfl) (by kernel_rfl) (fun _ _ _ h => h) (Or.inl ⟨by rfl, ?_⟩) hHeld ?_
  rotate_left
  · intro w hSw
    try dsimp only at hSw
    go_simp
    try (with_reducible rfl)
  simp only [Act.put, List.setIfInBounds_toArray, List.set_cons_zero, List.set_cons_succ]
  refine wpAnyH_take (i := 1) (oi := { dst := some 4, op := Go.Op.load 32 (Go.Operand.tmp 3), type := 32, pos := "l12_evid.go:78", after := #[{ on := 0, ground := Go.Ground.data }], guard := none }) (v := ?_) rfl (by kernel_rfl) (by kernel_rfl) (by kernel_rfl) (fun _ _ _ h => h) (Or.inl ⟨by rfl, ?_⟩) hHeld ?_
  rotate_left
  · intro w hSw
    try dsimp only at hSw
    go_simp
    try (with_reducible rfl)
  simp only [Act.put, List.setIfInBounds_toArray, List.set_cons_zero, List.set_cons_succ]
  refine wpAnyH_ready (rs := [2]) (by kernel_rfl) (by decide) ?_
  refine AllReadyH.cons (o := { dst := some 5, op := Go.Op.call { callee := Go.Callee.value (Go.Operand.func 40), args := #[Go.Operand.tmp 4], argTypes := #[32] }, type := 4, pos := "l12_evid.go:78", after := #[{ on := 1, ground := Go.Ground.data }], guard := none }) rfl (fun K hK => ?_) AllReadyH.nil
  go_simp
  refine (kA _ (HTa.out.below HB0.out HTa.out.pos)).mono ?_; rintro e w1 ⟨rfl, b1⟩; have HX1 : Hid (Blk w1 w.heap.size [Value.int .i64 h, Value.int .i64 r, Value.int .i64 s, Value.string i, Value.int .i64 v, Value.string g, Value.int .i64 h', Value.int .i64 r', Value.int .i64 s', Value.string i', Value.int .i64 v', Value.string g'] 34) := HX0.out.below b1 HX0.out.lt; have HB1 : Hid (Below w.heap.size w w1) := HB0.out.trans (b1.mono HB0.out.size)
  refine hK.out _ _ (HXS.out _ HX1.out) (fun hHeld => ?_)
  clear hK K
  refine wpAnyH_take (i := 3) (oi := { dst := some 6, op := Go.Op.move (Go.Operand.tmp 5), type := 4, pos := "l12_evid.go:78", after := #[{ on := 2, ground := Go.Ground.data }, { on := 2, ground := Go.Ground.chain }], guard := none }) (v := ?_) rfl (by kernel_rfl) (by kernel_rfl) (by kernel_rfl) (fun _ _ _ h => h) (Or.inl ⟨by rfl, ?_⟩) hHeld ?_
  rotate_left
  · intro w hSw
    try dsimp only at hSw
    go_simp
    try (with_reducible rfl)
  simp only [Act.put, List.setIfInBounds_toArray, List.set_cons_zero, List.set_cons_succ]
  refine wpAnyH_take (i := 4) (oi := { dst := some 7, op := Go.Op.fieldAddr 34 (Go.Operand.tmp 1) 1, type := 0, pos := "l12_evid.go:78", after := #[{ on := 3, ground := Go.Ground.guard }], guard := some (3, true) }) (v := ?_) rfl (by kernel_rfl) (by kernel_rfl) (by kernel_rfl) (fun _ _ _ h => h) (Or.inl ⟨by rfl, ?_⟩) hHeld ?_
  rotate_left
  · intro w hSw
    try dsimp only at hSw
    go_simp
    try (with_reducible rfl)
  simp only [Act.put, List.setIfInBounds_toArray, List.set_cons_zero, List.set_cons_succ]
  refine wpAnyH_take (i := 5) (oi := { dst := some 8, op := Go.Op.load 32 (Go.Operand.tmp 7), type := 32, pos := "l12_evid.go:78", after := #[{ on := 4, ground := Go.Ground.data }, { on := 3, ground := Go.Ground.guard }], guard := some (3, true) }) (v := ?_) rfl (by kernel_rfl) (by kernel_rfl) (by kernel_rfl) (fun _ _ _ h => h) (Or.inl ⟨by rfl, ?_⟩) hHeld ?_
  rotate_left
  · intro w hSw
    try dsimp only at hSw
    go_simp
    try (with_reducible rfl)
  simp only [Act.put, List.setIfInBounds_toArray, List.set_cons_zero, List.set_cons_succ]
  refine wpAnyH_ready (rs := [6]) (by kernel_rfl) (by decide) ?_
  refine AllReadyH.cons (o := { dst := some 9, op := Go.Op.call { callee := Go.Callee.value (Go.Operand.func 40), args := #[Go.Operand.tmp 8], argTypes := #[32] }, type := 4, pos := "l12_evid.go:78", after := #[{ on := 5, ground := Go.Ground.data }, { on := 3, ground := Go.Ground.chain }, { on := 3, ground := Go.Ground.guard }], guard := some (3, true) }) rfl (fun K hK => ?_) AllReadyH.nil
  go_simp
  refine (kB _ (HTa.out.below HB1.out HTa.out.pos)).mono ?_; rintro e w2 ⟨rfl, b2⟩; have HX2 : Hid (Blk w2 w.heap.size [Value.int .i64 h, Value.int .i64 r, Value.int .i64 s, Value.string i, Value.int .i64 v, Value.string g, Value.int .i64 h', Value.int .i64 r', Value.int .i64 s', Value.string i', Value.int .i64 v', Value.string g'] 34) := HX1.out.below b2 HX1.out.lt; have HB2 : Hid (Below w.heap.size w w2) := HB1.out.trans (b2.mono HB1.out.size)
  refine hK.out _ _ (HXS.out _ HX2.out) (fun hHeld => ?_)
  clear hK K
  refine wpAnyH_take (i := 7) (oi := { dst := some 10, op := Go.Op.pick (Go.Operand.tmp 6) (Go.Operand.tmp 9) (Go.Operand.const (Go.Value.bool false)), type := 4, pos := "l12_evid.go:78", after := #[{ on := 3, ground := Go.Ground.data }, { on := 6, ground := Go.Ground.data }], guard := none }) (v := ?_) rfl (by kernel_rfl) (by kernel_rfl) (by kernel_rfl) (fun _ _ _ h => h) (Or.inl ⟨by rfl, ?_⟩) hHeld ?_
  rotate_left
  · intro w hSw
    try dsimp only at hSw
    go_simp
    try (with_reducible rfl)
  simp only [Act.put, List.setIfInBounds_toArray, List.set_cons_zero, List.set_cons_succ]
  refine wpAnyH_take (i := 8) (oi := { dst := some 11, op := Go.Op.move (Go.Operand.tmp 10), type := 4, pos := "l12_evid.go:78", after := #[{ on := 7, ground := Go.Ground.data }, { on := 6, ground := Go.Ground.chain }], guard := none }) (v := ?_) rfl (by kernel_rfl) (by kernel_rfl) (by kernel_rfl) (fun _ _ _ h => h) (Or.inl ⟨by rfl, ?_⟩) hHeld ?_
  rotate_left
  · intro w hSw
    try dsimp only at hSw
    go_simp
    try (with_reducible rfl)
  simp only [Act.put, List.setIfInBounds_toArray, List.set_cons_zero, List.set_cons_succ]
  refine wpAnyH_take (i := 9) (oi := { dst := some 12, op := Go.Op.fieldAddr 34 (Go.Operand.tmp 1) 0, type := 0, pos := "l12_evid.go:78", after := #[{ on := 8, ground := Go.Ground.guard }], guard := some (8, true) }) (v := undef) rfl (by kernel_rfl) (by kernel_rfl) (by kernel_rfl) (fun _ _ _ h => h) (Or.inr ⟨by rfl, rfl⟩) hHeld ?_
  simp only [Act.put, List.setIfInBounds_toArray, List.set_cons_zero, List.set_cons_succ]
  refine wpAnyH_take (i := 10) (oi := { dst := some 13, op := Go.Op.fieldAddr 32 (Go.Operand.tmp 12) 0, type := 0, pos := "l12_evid.go:78", after := #[{ on := 9, ground := Go.Ground.data }, { on := 8, ground := Go.Ground.guard }], guard := some (8, true) }) (v := undef) rfl (by kernel_rfl) (by kernel_rfl) (by kernel_rfl) (fun _ _ _ h => h) (Or.inr ⟨by rfl, rfl⟩) hHeld ?_
  simp only [Act.put, List.setIfInBounds_toArray, List.set_cons_zero, List.set_cons_succ]
  refine wpAnyH_take (i := 11) (oi := { dst := some 14, op := Go.Op.load 30 (Go.Operand.tmp 13), type := 30, pos := "l12_evid.go:78", after := #[{ on := 10, ground := Go.Ground.data }, { on := 8, ground := Go.Ground.guard }], guard := some (8, true) }) (v := undef) rfl (by kernel_rfl) (by kernel_rfl) (by kernel_rfl) (fun _ _ _ h => h) (Or.inr ⟨by rfl, rfl⟩) hHeld ?_
  simp only [Act.put, List.setIfInBounds_toArray, List.set_cons_zero, List.set_cons_succ]
  refine wpAnyH_take (i := 13) (oi := { dst := some 16, op := Go.Op.fieldAddr 34 (Go.Operand.tmp 1) 1, type := 0, pos := "l12_evid.go:78", after := #[{ on := 8, ground := Go.Ground.guard }], guard := some (8, true) }) (v := undef) rfl (by kernel_rfl) (by kernel_rfl) (by kernel_rfl) (fun _ _ _ h => h) (Or.inr ⟨by rfl, rfl⟩) hHeld ?_
  simp only [Act.put, List.setIfInBounds_toArray, List.set_cons_zero, List.set_cons_succ]
  refine wpAnyH_take (i := 14) (oi := { dst := some 17, op := Go.Op.fieldAddr 32 (Go.Operand.tmp 16) 0, type := 0, pos := "l12_evid.go:78", after := #[{ on := 13, ground := Go.Ground.data }, { on := 8, ground := Go.Ground.guard }], guard := some (8, true) }) (v := undef) rfl (by kernel_rfl) (by kernel_rfl) (by kernel_rfl) (fun _ _ _ h => h) (Or.inr ⟨by rfl, rfl⟩) hHeld ?_
  simp only [Act.put, List.setIfInBounds_toArray, List.set_cons_zero, List.set_cons_succ]
  refine wpAnyH_take (i := 15) (oi := { dst := some 18, op := Go.Op.load 30 (Go.Operand.tmp 17), type := 30, pos := "l12_evid.go:78", after := #[{ on := 14, ground := Go.Ground.data }, { on := 8, ground := Go.Ground.guard }], guard := some (8, true) }) (v := undef) rfl (by kernel_rfl) (by kernel_rfl) (by kernel_rfl) (fun _ _ _ h => h) (Or.inr ⟨by rfl, rfl⟩) hHeld ?_
  simp only [Act.put, List.setIfInBounds_toArray, List.set_cons_zero, List.set_cons_succ]
  refine wpAnyH_take (i := 12) (oi := { dst := some 15, op := Go.Op.call { callee := Go.Callee.value (Go.Operand.func 41), args := #[Go.Operand.tmp 14], argTypes := #[30] }, type := 71, pos := "l12_evid.go:78", after := #[{ on := 11, ground := Go.Ground.data }, { on := 8, ground := Go.Ground.chain }, { on := 8, ground := Go.Ground.guard }], guard := some (8, true) }) (v := undef) rfl (by kernel_rfl) (by kernel_rfl) (by kernel_rfl) (fun _ _ _ h => h) (Or.inr ⟨by rfl, rfl⟩) hHeld ?_
  simp only [Act.put, List.setIfInBounds_toArray, List.set_cons_zero, List.set_cons_succ]
  refine wpAnyH_take (i := 16) (oi := { dst := some 19, op := Go.Op.call { callee := Go.Callee.value (Go.Operand.func 41), args := #[Go.Operand.tmp 18], argTypes := #[30] }, type := 71, pos := "l12_evid.go:78", after := #[{ on := 15, ground := Go.Ground.data }, { on := 12, ground := Go.Ground.chain }, { on := 8, ground := Go.Ground.guard }], guard := some (8, true) }) (v := undef) rfl (by kernel_rfl) (by kernel_rfl) (by kernel_rfl) (fun _ _ _ h => h) (Or.inr ⟨by rfl, rfl⟩) hHeld ?_
  simp only [Act.put, List.setIfInBounds_toArray, List.set_cons_zero, List.set_cons_succ]
  refine wpAnyH_take (i := 17) (oi := { dst := some 20, op := Go.Op.binOp Go.BinOp.eql 71 (Go.Operand.tmp 15) (Go.Operand.tmp 19) 71, type := 4, pos := "l12_evid.go:78", after := #[{ on := 12, ground := Go.Ground.data }, { on := 16, ground := Go.Ground.data }, { on := 8, ground := Go.Ground.guard }], guard := some (8, true) }) (v := undef) rfl (by kernel_rfl) (by kernel_rfl) (by kernel_rfl) (fun _ _ _ h => h) (Or.inr ⟨by rfl, rfl⟩) hHeld ?_
  simp only [Act.put, List.setIfInBounds_toArray, List.set_cons_zero, List.set_cons_succ]
  refine wpAnyH_take (i := 18) (oi := { dst := some 21, op := Go.Op.pick (Go.Operand.tmp 11) (Go.Operand.tmp 20) (Go.Operand.const (Go.Value.bool false)), type := 4, pos := "l12_evid.go:78", after := #[{ on := 8, ground := Go.Ground.data }, { on := 17, ground := Go.Ground.data }], guard := none }) (v := ?_) rfl (by kernel_rfl) (by kernel_rfl) (by kernel_rfl) (fun _ _ _ h => h) (Or.inl ⟨by rfl, ?_⟩) hHeld ?_
  rotate_left
  · intro w hSw
    try dsimp only at hSw
    go_simp
    try (with_reducible rfl)
  simp only [Act.put, List.setIfInBounds_toArray, List.set_cons_zero, List.set_cons_succ]
  refine wpAnyH_take (i := 19) (oi := { dst := some 22, op := Go.Op.move (Go.Operand.tmp 21), type := 4, pos := "l12_evid.go:78", after := #[{ on := 18, ground := Go.Ground.data }, { on := 16, ground := Go.Ground.chain }], guard := none }) (v := ?_) rfl (by kernel_rfl) (by kernel_rfl) (by kernel_rfl) (fun _ _ _ h => h) (Or.inl ⟨by rfl, ?_⟩) hHeld ?_
  rotate_left
  · intro w hSw
    try dsimp only at hSw
    go_simp
    try (with_reducible rfl)
  simp only [Act.put, List.setIfInBounds_toArray, List.set_cons_zero, List.set_cons_succ]
  refine wpAnyH_take (i := 20) (oi := { dst := some 23, op := Go.Op.fieldAddr 34 (Go.Operand.tmp 1) 0, type := 0, pos := "l12_evid.go:78", after := #[{ on := 19, ground := Go.Ground.guard }], guard := some (19, true) }) (v := undef) rfl (by kernel_rfl) (by kernel_rfl) (by kernel_rfl) (fun _ _ _ h => h) (Or.inr ⟨by rfl, rfl⟩) hHeld ?_
  simp only [Act.put, List.setIfInBounds_toArray, List.set_cons_zero, List.set_cons_succ]
  refine wpAnyH_take (i := 21) (oi := { dst := some 24, op := Go.Op.fieldAddr 32 (Go.Operand.tmp 23) 0, type := 0, pos := "l12_evid.go:78", after := #[{ on := 20, ground := Go.Ground.data }, { on := 19, ground := Go.Ground.guard }], guard := some (19, true) }) (v := undef) rfl (by kernel_rfl) (by kernel_rfl) (by kernel_rfl) (fun _ _ _ h => h) (Or.inr ⟨by rfl, rfl⟩) hHeld ?_
  simp only [Act.put, List.setIfInBounds_toArray, List.set_cons_zero, List.set_cons_succ]
  refine wpAnyH_take (i := 22) (oi := { dst := some 25, op := Go.Op.fieldAddr 30 (Go.Operand.tmp 24) 3, type := 0, pos := "l12_evid.go:78", after := #[{ on := 21, ground := Go.Ground.data }, { on := 19, ground := Go.Ground.guard }], guard := some (19, true) }) (v := undef) rfl (by kernel_rfl) (by kernel_rfl) (by kernel_rfl) (fun _ _ _ h => h) (Or.inr ⟨by rfl, rfl⟩) hHeld ?_
  simp only [Act.put, List.setIfInBounds_toArray, List.set_cons_zero, List.set_cons_succ]
  refine wpAnyH_take (i := 23) (oi := { dst := some 26, op := Go.Op.load 9 (Go.Operand.tmp 25), type := 9, pos := "l12_evid.go:78", after := #[{ on := 22, ground := Go.Ground.data }, { on := 19, ground := Go.Ground.guard }], guard := some (19, true) }) (v := undef) rfl (by kernel_rfl) (by kernel_rfl) (by kernel_rfl) (fun _ _ _ h => h) (Or.inr ⟨by rfl, rfl⟩) hHeld ?_
  simp only [Act.put, List.setIfInBounds_toArray, List.set_cons_zero, List.set_cons_succ]
  refine wpAnyH_take (i := 24) (oi := { dst := some 27, op := Go.Op.fieldAddr 34 (Go.Operand.tmp 1) 1, type := 0, pos := "l12_evid.go:78", after := #[{ on := 19, ground := Go.Ground.guard }], guard := some (19, true) }) (v := undef) rfl (by kernel_rfl) (by kernel_rfl) (by kernel_rfl) (fun _ _ _ h => h) (Or.inr ⟨by rfl, rfl⟩) hHeld ?_
  simp only [Act.put, List.setIfInBounds_toArray, List.set_cons_zero, List.set_cons_succ]
  refine wpAnyH_take (i := 25) (oi := { dst := some 28, op := Go.Op.fieldAddr 32 (Go.Operand.tmp 27) 0, type := 0, pos := "l12_evid.go:78", after := #[{ on := 24, ground := Go.Ground.data }, { on := 19, ground := Go.Ground.guard }], guard := some (19, true) }) (v := undef) rfl (by kernel_rfl) (by kernel_rfl) (by kernel_rfl) (fun _ _ _ h => h) (Or.inr ⟨by rfl, rfl⟩) hHeld ?_
  simp only [Act.put, List.setIfInBounds_toArray, List.set_cons_zero, List.set_cons_succ]
  refine wpAnyH_take (i := 26) (oi := { dst := some 29, op := Go.Op.fieldAddr 30 (Go.Operand.tmp 28) 3, type := 0, pos := "l12_evid.go:78", after := #[{ on := 25, ground := Go.Ground.data }, { on := 19, ground := Go.Ground.guard }], guard := some (19, true) }) (v := undef) rfl (by kernel_rfl) (by kernel_rfl) (by kernel_rfl) (fun _ _ _ h => h) (Or.inr ⟨by rfl, rfl⟩) hHeld ?_
  simp only [Act.put, List.setIfInBounds_toArray, List.set_cons_zero, List.set_cons_succ]
  refine wpAnyH_take (i := 27) (oi := { dst := some 30, op := Go.Op.load 9 (Go.Operand.tmp 29), type := 9, pos := "l12_evid.go:78", after := #[{ on := 26, ground := Go.Ground.data }, { on := 19, ground := Go.Ground.guard }], guard := some (19, true) }) (v := undef) rfl (by kernel_rfl) (by kernel_rfl) (by kernel_rfl) (fun _ _ _ h => h) (Or.inr ⟨by rfl, rfl⟩) hHeld ?_
  simp only [Act.put, List.setIfInBounds_toArray, List.set_cons_zero, List.set_cons_succ]
  refine wpAnyH_take (i := 28) (oi := { dst := some 31, op := Go.Op.binOp Go.BinOp.neq 9 (Go.Operand.tmp 26) (Go.Operand.tmp 30) 9, type := 4, pos := "l12_evid.go:78", after := #[{ on := 23, ground := Go.Ground.data }, { on := 27, ground := Go.Ground.data }, { on := 19, ground := Go.Ground.guard }], guard := some (19, true) }) (v := undef) rfl (by kernel_rfl) (by kernel_rfl) (by kernel_rfl) (fun _ _ _ h => h) (Or.inr ⟨by rfl, rfl⟩) hHeld ?_
  simp only [Act.put, List.setIfInBounds_toArray, List.set_cons_zero, List.set_cons_succ]
  refine wpAnyH_take (i := 29) (oi := { dst := some 32, op := Go.Op.pick (Go.Operand.tmp 22) (Go.Operand.tmp 31) (Go.Operand.const (Go.Value.bool false)), type := 4, pos := "l12_evid.go:78", after := #[{ on := 19, ground := Go.Ground.data }, { on := 28, ground := Go.Ground.data }], guard := none }) (v := ?_) rfl (by kernel_rfl) (by kernel_rfl) (by kernel_rfl) (fun _ _ _ h => h) (Or.inl ⟨by rfl, ?_⟩) hHeld ?_
  rotate_left
  · intro w hSw
    try dsimp only at hSw
    go_simp
    try (with_reducible rfl)
  simp only [Act.put, List.setIfInBounds_toArray, List.set_cons_zero, List.set_cons_succ]
  refine wpAnyH_take (i := 30) (oi := { dst := some 2, op := Go.Op.assign (Go.Operand.tmp 32), type := 4, pos := "l12_evid.go:78", after := #[{ on := 29, ground := Go.Ground.data }, { on := 19, ground := Go.Ground.chain }, { on := 0, ground := Go.Ground.phase }, { on := 1, ground := Go.Ground.phase }, { on := 2, ground := Go.Ground.phase }, { on := 3, ground := Go.Ground.phase }, { on := 4, ground := Go.Ground.phase }, { on := 5, ground := Go.Ground.phase }, { on := 6, ground := Go.Ground.phase }, { on := 7, ground := Go.Ground.phase }, { on := 8, ground := Go.Ground.phase }, { on := 9, ground := Go.Ground.phase }, { on := 10, ground := Go.Ground.phase }, { on := 11, ground := Go.Ground.phase }, { on := 12, ground := Go.Ground.phase }, { on := 13, ground := Go.Ground.phase }, { on := 14, ground := Go.Ground.phase }, { on := 15, ground := Go.Ground.phase }, { on := 16, ground := Go.Ground.phase }, { on := 17, ground := Go.Ground.phase }, { on := 18, ground := Go.Ground.phase }, { on := 19, ground := Go.Ground.phase }, { on := 20, ground := Go.Ground.phase }, { on := 21, ground := Go.Ground.phase }, { on := 22, ground := Go.Ground.phase }, { on := 23, ground := Go.Ground.phase }, { on := 24, ground := Go.Ground.phase }, { on := 25, ground := Go.Ground.phase }, { on := 26, ground := Go.Ground.phase }, { on := 27, ground := Go.Ground.phase }, { on := 28, ground := Go.Ground.phase }, { on := 29, ground := Go.Ground.phase }], guard := none }) (v := ?_) rfl (by kernel_rfl) (by kernel_rfl) (by kernel_rfl) (fun _ _ _ h => h) (Or.inl ⟨by rfl, ?_⟩) hHeld ?_
  rotate_left
  · intro w hSw
    try dsimp only at hSw
    go_simp
    try (with_reducible rfl)
  simp only [Act.put, List.setIfInBounds_toArray, List.set_cons_zero, List.set_cons_succ]
  refine wpAnyH_done (by kernel_rfl) ?_ _
  go_wp2_with fail
  go_ret
  exact ⟨rfl, HB2.out⟩
set_option maxHeartbeats 3200000 in
set_option maxRecDepth 100000 in
theorem impl_evok3 (a b : Sv) (w : World) (hT : Tab w) (hA : sgB a = true) (hB : sgB b = true) (hC : plc a.x b.x = false) :
    Calls Tryd.prog 18 #[eV a b] w fun e w' => e = .returned (.bool false) ∧ Below w.heap.size w w' := by
  have HTa : Hid (Tab w) := hT
  clear hT
  have HX : Hid (Blk (w.alloc (.cells (eLs a b).toArray 34)) w.heap.size (eLs a b) 34) := blk_new w _ _
  have HB : Hid (Below w.heap.size w (w.alloc (.cells (eLs a b).toArray 34))) := below_one _ _
  have kA := fun W (hT : Tab W) => impl_sgd a W hT
  have kB := fun W (hT : Tab W) => impl_sgd b W hT
  rw [hA] at kA
  clear hA
  rw [hB] at kB
  clear hB
  have kP := fun W => impl_place a.x W
  have kQ := fun W => impl_place b.x W
  unfold tV pV at kP kQ
  have hgP := guardP
  have hqP := fun W => run_eqP a.x b.x W
  rw [hC] at hqP
  clear hC
  unfold yV at kA kB
  obtain ⟨⟨h, r, s, i, v⟩, g⟩ := a
  obtain ⟨⟨h', r', s', i', v'⟩, g'⟩ := b
  unfold eV
  unfold eLs at HX HB
  try simp only at HX HB kA kB hqP kP kQ ⊢
  have HXS : Hid (∀ W, Blk W w.heap.size [Value.int .i64 h, Value.int .i64 r, Value.int .i64 s, Value.string i, Value.int .i64 v, Value.string g, Value.int .i64 h', Value.int .i64 r', Value.int .i64 s', Value.string i', Value.int .i64 v', Value.string g'] 34 → W.cell? ⟨w.heap.size, 0, none⟩ = some (Value.int .i64 h) ∧ W.cell? ⟨w.heap.size, 1, none⟩ = some (Value.int .i64 r) ∧ W.cell? ⟨w.heap.size, 2, none⟩ = some (Value.int .i64 s) ∧ W.cell? ⟨w.heap.size, 3, none⟩ = some (Value.string i) ∧ W.cell? ⟨w.heap.size, 4, none⟩ = some (Value.int .i64 v) ∧ W.cell? ⟨w.heap.size, 5, none⟩ = some (Value.string g) ∧ W.cell? ⟨w.heap.size, 6, none⟩ = some (Value.int .i64 h') ∧ W.cell? ⟨w.heap.size, 7, none⟩ = some (Value.int .i64 r') ∧ W.cell? ⟨w.heap.size, 8, none⟩ = some (Value.int .i64 s') ∧ W.cell? ⟨w.heap.size, 9, none⟩ = some (Value.string i') ∧ W.cell? ⟨w.heap.size, 10, none⟩ = some (Value.int .i64 v') ∧ W.cell? ⟨w.heap.size, 11, none⟩ = some (Value.string g')) := fun W H => ⟨H.cell 0 rfl, H.cell 1 rfl, H.cell 2 rfl, H.cell 3 rfl, H.cell 4 rfl, H.cell 5 rfl, H.cell 6 rfl, H.cell 7 rfl, H.cell 8 rfl, H.cell 9 rfl, H.cell 10 rfl, H.cell 11 rfl⟩
  go_enter Tryd.func18, Tryd.ntmps18
  go_wp2_with fail
  generalize w.alloc (Obj.cells #[Value.int .i64 h, Value.int .i64 r, Value.int .i64 s, Value.string i, Value.int .i64 v, Value.string g, Value.int .i64 h', Value.int .i64 r', Value.int .i64 s', Value.string i', Value.int .i64 v', Value.string g'] 34) = w0 at *
  have HT0 : Hid (Tab w0) := HTa.out.below HB.out HTa.out.pos
  have HX0 : Hid (Blk w0.drew w.heap.size [Value.int .i64 h, Value.int .i64 r, Value.int .i64 s, Value.string i, Value.int .i64 v, Value.string g, Value.int .i64 h', Value.int .i64 r', Value.int .i64 s', Value.string i', Value.int .i64 v', Value.string g'] 34) := HX.out
  have HB0 : Hid (Below w.heap.size w w0.drew) := HB.out.drew
  have HTd : Hid (Tab w0.drew) := HT0.out.below (Below.refl _ _).drew HT0.out.pos
  clear HX HB HT0
  refine wp_region_held_drew (S := (fun W : World => W.cell? ⟨w.heap.size, 0, none⟩ = some (Value.int .i64 h) ∧ W.cell? ⟨w.heap.size, 1, none⟩ = some (Value.int .i64 r) ∧ W.cell? ⟨w.heap.size, 2, none⟩ = some (Value.int .i64 s) ∧ W.cell? ⟨w.heap.size, 3, none⟩ = some (Value.string i) ∧ W.cell? ⟨w.heap.size, 4, none⟩ = some (Value.int .i64 v) ∧ W.cell? ⟨w.heap.size, 5, none⟩ = some (Value.string g) ∧ W.cell? ⟨w.heap.size, 6, none⟩ = some (Value.int .i64 h') ∧ W.cell? ⟨w.heap.size, 7, none⟩ = some (Value.int .i64 r') ∧ W.cell? ⟨w.heap.size, 8, none⟩ = some (Value.int .i64 s') ∧ W.cell? ⟨w.heap.size, 9, none⟩ = some (Value.string i') ∧ W.cell? ⟨w.heap.size, 10, none⟩ = some (Value.int .i64 v') ∧ W.cell? ⟨w.heap.size, 11, none⟩ = some (Value.string g'))) (by kernel_rfl) ?_ (fun hHeld => ?_)
  · exact HXS.out _ HX0.out
  refine wpAnyH_take (i := 0) (oi := { dst := some 3, op := Go.Op.fieldAddr 34 (Go.Operand.tmp 1) 0, type := 0, pos := "l12_evid.go:78", after := #[], guard := none }) (v := ?_) rfl (by kernel_rfl) (by kernel_rfl) (by kernel_rfl) (fun _ _ _ h => h) (Or.inl ⟨by rfl, ?_⟩) hHeld ?_
  rotate_left
  · intro w hSw
    try dsimp only at hSw
    go_simp
    try (with_reducible rfl)
  simp only [Act.put, List.setIfInBounds_toArray, List.set_cons_zero, List.set_cons_succ]
  refine wpAnyH_take (i := 1) (oi := { dst := some 4, op := Go.Op.load 32 (Go.Operand.tmp 3), type := 32, pos := "l12_evid.go:78", after := #[{ on := 0, ground := Go.Ground.data }], guard := none }) (v := ?_) rfl (by kernel_rfl) (by kernel_rfl) (by kernel_rfl) (fun _ _ _ h => h) (Or.inl ⟨by rfl, ?_⟩) hHeld ?_
  rotate_left
  · intro w hSw
    try dsimp only at hSw
    go_simp
    try (with_reducible rfl)
  simp only [Act.put, List.setIfInBounds_toArray, List.set_cons_zero, List.set_cons_succ]
  refine wpAnyH_ready (rs := [2]) (by kernel_rfl) (by decide) ?_
  refine AllReadyH.cons (o := { dst := some 5, op := Go.Op.call { callee := Go.Callee.value (Go.Operand.func 40), args := #[Go.Operand.tmp 4], argTypes := #[32] }, type := 4, pos := "l12_evid.go:78", after := #[{ on := 1, ground := Go.Ground.data }], guard := none }) rfl (fun K hK => ?_) AllReadyH.nil
  go_simp
  refine (kA _ (HTa.out.below HB0.out HTa.out.pos)).mono ?_; rintro e w1 ⟨rfl, b1⟩; have HX1 : Hid (Blk w1 w.heap.size [Value.int .i64 h, Value.int .i64 r, Value.int .i64 s, Value.string i, Value.int .i64 v, Value.string g, Value.int .i64 h', Value.int .i64 r', Value.int .i64 s', Value.string i', Value.int .i64 v', Value.string g'] 34) := HX0.out.below b1 HX0.out.lt; have HB1 : Hid (Below w.heap.size w w1) := HB0.out.trans (b1.mono HB0.out.size)
  refine hK.out _ _ (HXS.out _ HX1.out) (fun hHeld => ?_)
  clear hK K
  refine wpAnyH_take (i := 3) (oi := { dst := some 6, op := Go.Op.move (Go.Operand.tmp 5), type := 4, pos := "l12_evid.go:78", after := #[{ on := 2, ground := Go.Ground.data }, { on := 2, ground := Go.Ground.chain }], guard := none }) (v := ?_) rfl (by kernel_rfl) (by kernel_rfl) (by kernel_rfl) (fun _ _ _ h => h) (Or.inl ⟨by rfl, ?_⟩) hHeld ?_
  rotate_left
  · intro w hSw
    try dsimp only at hSw
    go_simp
    try (with_reducible rfl)
  simp only [Act.put, List.setIfInBounds_toArray, List.set_cons_zero, List.set_cons_succ]
  refine wpAnyH_take (i := 4) (oi := { dst := some 7, op := Go.Op.fieldAddr 34 (Go.Operand.tmp 1) 1, type := 0, pos := "l12_evid.go:78", after := #[{ on := 3, ground := Go.Ground.guard }], guard := some (3, true) }) (v := ?_) rfl (by kernel_rfl) (by kernel_rfl) (by kernel_rfl) (fun _ _ _ h => h) (Or.inl ⟨by rfl, ?_⟩) hHeld ?_
  rotate_left
  · intro w hSw
    try dsimp only at hSw
    go_simp
    try (with_reducible rfl)
  simp only [Act.put, List.setIfInBounds_toArray, List.set_cons_zero, List.set_cons_succ]
  refine wpAnyH_take (i := 5) (oi := { dst := some 8, op := Go.Op.load 32 (Go.Operand.tmp 7), type := 32, pos := "l12_evid.go:78", after := #[{ on := 4, ground := Go.Ground.data }, { on := 3, ground := Go.Ground.guard }], guard := some (3, true) }) (v := ?_) rfl (by kernel_rfl) (by kernel_rfl) (by kernel_rfl) (fun _ _ _ h => h) (Or.inl ⟨by rfl, ?_⟩) hHeld ?_
  rotate_left
  · intro w hSw
    try dsimp only at hSw
    go_simp
    try (with_reducible rfl)
  simp only [Act.put, List.setIfInBounds_toArray, List.set_cons_zero, List.set_cons_succ]
  refine wpAnyH_ready (rs := [6]) (by kernel_rfl) (by decide) ?_
  refine AllReadyH.cons (o := { dst := some 9, op := Go.Op.call { callee := Go.Callee.value (Go.Operand.func 40), args := #[Go.Operand.tmp 8], argTypes := #[32] }, type := 4, pos := "l12_evid.go:78", after := #[{ on := 5, ground := Go.Ground.data }, { on := 3, ground := Go.Ground.chain }, { on := 3, ground := Go.Ground.guard }], guard := some (3, true) }) rfl (fun K hK => ?_) AllReadyH.nil
  go_simp
  refine (kB _ (HTa.out.below HB1.out HTa.out.pos)).mono ?_; rintro e w2 ⟨rfl, b2⟩; have HX2 : Hid (Blk w2 w.heap.size [Value.int .i64 h, Value.int .i64 r, Value.int .i64 s, Value.string i, Value.int .i64 v, Value.string g, Value.int .i64 h', Value.int .i64 r', Value.int .i64 s', Value.string i', Value.int .i64 v', Value.string g'] 34) := HX1.out.below b2 HX1.out.lt; have HB2 : Hid (Below w.heap.size w w2) := HB1.out.trans (b2.mono HB1.out.size)
  refine hK.out _ _ (HXS.out _ HX2.out) (fun hHeld => ?_)
  clear hK K
  refine wpAnyH_take (i := 7) (oi := { dst := some 10, op := Go.Op.pick (Go.Operand.tmp 6) (Go.Operand.tmp 9) (Go.Operand.const (Go.Value.bool false)), type := 4, pos := "l12_evid.go:78", after := #[{ on := 3, ground := Go.Ground.data }, { on := 6, ground := Go.Ground.data }], guard := none }) (v := ?_) rfl (by kernel_rfl) (by kernel_rfl) (by kernel_rfl) (fun _ _ _ h => h) (Or.inl ⟨by rfl, ?_⟩) hHeld ?_
  rotate_left
  · intro w hSw
    try dsimp only at hSw
    go_simp
    try (with_reducible rfl)
  simp only [Act.put, List.setIfInBounds_toArray, List.set_cons_zero, List.set_cons_succ]
  refine wpAnyH_take (i := 8) (oi := { dst := some 11, op := Go.Op.move (Go.Operand.tmp 10), type := 4, pos := "l12_evid.go:78", after := #[{ on := 7, ground := Go.Ground.data }, { on := 6, ground := Go.Ground.chain }], guard := none }) (v := ?_) rfl (by kernel_rfl) (by kernel_rfl) (by kernel_rfl) (fun _ _ _ h => h) (Or.inl ⟨by rfl, ?_⟩) hHeld ?_
  rotate_left
  · intro w hSw
    try dsimp only at hSw
    go_simp
    try (with_reducible rfl)
  simp only [Act.put, List.setIfInBounds_toArray, List.set_cons_zero, List.set_cons_succ]
  refine wpAnyH_take (i := 9) (oi := { dst := some 12, op := Go.Op.fieldAddr 34 (Go.Operand.tmp 1) 0, type := 0, pos := "l12_evid.go:78", after := #[{ on := 8, ground := Go.Ground.guard }], guard := some (8, true) }) (v := ?_) rfl (by kernel_rfl) (by kernel_rfl) (by kernel_rfl) (fun _ _ _ h => h) (Or.inl ⟨by rfl, ?_⟩) hHeld ?_
  rotate_left
  · intro w hSw
    try dsimp only at hSw
    go_simp
    try (with_reducible rfl)
  simp only [Act.put, List.setIfInBounds_toArray, List.set_cons_zero, List.set_cons_succ]
  refine wpAnyH_take (i := 10) (oi := { dst := some 13, op := Go.Op.fieldAddr 32 (Go.Operand.tmp 12) 0, type := 0, pos := "l12_evid.go:78", after := #[{ on := 9, ground := Go.Ground.data }, { on := 8, ground := Go.Ground.guard }], guard := some (8, true) }) (v := ?_) rfl (by kernel_rfl) (by kernel_rfl) (by kernel_rfl) (fun _ _ _ h => h) (Or.inl ⟨by rfl, ?_⟩) hHeld ?_
  rotate_left
  · intro w hSw
    try dsimp only at hSw
    go_simp
    try (with_reducible rfl)
  simp only [Act.put, List.setIfInBounds_toArray, List.set_cons_zero, List.set_cons_succ]
  refine wpAnyH_take (i := 11) (oi := { dst := some 14, op := Go.Op.load 30 (Go.Operand.tmp 13), type := 30, pos := "l12_evid.go:78", after := #[{ on := 10, ground := Go.Ground.data }, { on := 8, ground := Go.Ground.guard }], guard := some (8, true) }) (v := ?_) rfl (by kernel_rfl) (by kernel_rfl) (by kernel_rfl) (fun _ _ _ h => h) (Or.inl ⟨by rfl, ?_⟩) hHeld ?_
  rotate_left
  · intro w hSw
    try dsimp only at hSw
    go_simp
    try (with_reducible rfl)
  simp only [Act.put, List.setIfInBounds_toArray, List.set_cons_zero, List.set_cons_succ]
  refine wpAnyH_take (i := 13) (oi := { dst := some 16, op := Go.Op.fieldAddr 34 (Go.Operand.tmp 1) 1, type := 0, pos := "l12_evid.go:78", after := #[{ on := 8, ground := Go.Ground.guard }], guard := some (8, true) }) (v := ?_) rfl (by kernel_rfl) (by kernel_rfl) (by kernel_rfl) (fun _ _ _ h => h) (Or.inl ⟨by rfl, ?_⟩) hHeld ?_
  rotate_left
  · intro w hSw
    try dsimp only at hSw
    go_simp
    try (with_reducible rfl)
  simp only [Act.put, List.setIfInBounds_toArray, List.set_cons_zero, List.set_cons_succ]
  refine wpAnyH_take (i := 14) (oi := { dst := some 17, op := Go.Op.fieldAddr 32 (Go.Operand.tmp 16) 0, type := 0, pos := "l12_evid.go:78", after := #[{ on := 13, ground := Go.Ground.data }, { on := 8, ground := Go.Ground.guard }], guard := some (8, true) }) (v := ?_) rfl (by kernel_rfl) (by kernel_rfl) (by kernel_rfl) (fun _ _ _ h => h) (Or.inl ⟨by rfl, ?_⟩) hHeld ?_
  rotate_left
  · intro w hSw
    try dsimp only at hSw
    go_simp
    try (with_reducible rfl)
  simp only [Act.put, List.setIfInBounds_toArray, List.set_cons_zero, List.set_cons_succ]
  refine wpAnyH_take (i := 15) (oi := { dst := some 18, op := Go.Op.load 30 (Go.Operand.tmp 17), type := 30, pos := "l12_evid.go:78", after := #[{ on := 14, ground := Go.Ground.data }, { on := 8, ground := Go.Ground.guard }], guard := some (8, true) }) (v := ?_) rfl (by kernel_rfl) (by kernel_rfl) (by kernel_rfl) (fun _ _ _ h => h) (Or.inl ⟨by rfl, ?_⟩) hHeld ?_
  rotate_left
  · intro w hSw
    try dsimp only at hSw
    go_simp
    try (with_reducible rfl)
  simp only [Act.put, List.setIfInBounds_toArray, List.set_cons_zero, List.set_cons_succ]
  refine wpAnyH_ready (rs := [12]) (by kernel_rfl) (by decide) ?_
  refine AllReadyH.cons (o := { dst := some 15, op := Go.Op.call { callee := Go.Callee.value (Go.Operand.func 41), args := #[Go.Operand.tmp 14], argTypes := #[30] }, type := 71, pos := "l12_evid.go:78", after := #[{ on := 11, ground := Go.Ground.data }, { on := 8, ground := Go.Ground.chain }, { on := 8, ground := Go.Ground.guard }], guard := some (8, true) }) rfl (fun K hK => ?_) AllReadyH.nil
  go_simp
  refine (kP _).mono ?_; rintro e w3 ⟨rfl, b3⟩; have HX3 : Hid (Blk w3 w.heap.size [Value.int .i64 h, Value.int .i64 r, Value.int .i64 s, Value.string i, Value.int .i64 v, Value.string g, Value.int .i64 h', Value.int .i64 r', Value.int .i64 s', Value.string i', Value.int .i64 v', Value.string g'] 34) := HX2.out.below b3 HX2.out.lt; have HB3 : Hid (Below w.heap.size w w3) := HB2.out.trans (b3.mono HB2.out.size)
  refine hK.out _ _ (HXS.out _ HX3.out) (fun hHeld => ?_)
  clear hK K
  refine wpAnyH_ready (rs := [16]) (by kernel_rfl) (by decide) ?_
  refine AllReadyH.cons (o := { dst := some 19, op := Go.Op.call { callee := Go.Callee.value (Go.Operand.func 41), args := #[Go.Operand.tmp 18], argTypes := #[30] }, type := 71, pos := "l12_evid.go:78", after := #[{ on := 15, ground := Go.Ground.data }, { on := 12, ground := Go.Ground.chain }, { on := 8, ground := Go.Ground.guard }], guard := some (8, true) }) rfl (fun K hK => ?_) AllReadyH.nil
  go_simp
  refine (kQ _).mono ?_; rintro e w4 ⟨rfl, b4⟩; have HX4 : Hid (Blk w4 w.heap.size [Value.int .i64 h, Value.int .i64 r, Value.int .i64 s, Value.string i, Value.int .i64 v, Value.string g, Value.int .i64 h', Value.int .i64 r', Value.int .i64 s', Value.string i', Value.int .i64 v', Value.string g'] 34) := HX3.out.below b4 HX3.out.lt; have HB4 : Hid (Below w.heap.size w w4) := HB3.out.trans (b4.mono HB3.out.size)
  refine hK.out _ _ (HXS.out _ HX4.out) (fun hHeld => ?_)
  clear hK K
  refine wpAnyH_take (i := 17) (oi := { dst := some 20, op := Go.Op.binOp Go.BinOp.eql 71 (Go.Operand.tmp 15) (Go.Operand.tmp 19) 71, type := 4, pos := "l12_evid.go:78", after := #[{ on := 12, ground := Go.Ground.data }, { on := 16, ground := Go.Ground.data }, { on := 8, ground := Go.Ground.guard }], guard := some (8, true) }) (v := ?_) rfl (by kernel_rfl) (by kernel_rfl) (by kernel_rfl) (fun _ _ _ h => h) (Or.inl ⟨by rfl, ?_⟩) hHeld ?_
  rotate_left
  · intro w hSw
    try dsimp only at hSw
    go_simp
    try (with_reducible rfl)
  simp only [Act.put, List.setIfInBounds_toArray, List.set_cons_zero, List.set_cons_succ]
  refine wpAnyH_take (i := 18) (oi := { dst := some 21, op := Go.Op.pick (Go.Operand.tmp 11) (Go.Operand.tmp 20) (Go.Operand.const (Go.Value.bool false)), type := 4, pos := "l12_evid.go:78", after := #[{ on := 8, ground := Go.Ground.data }, { on := 17, ground := Go.Ground.data }], guard := none }) (v := ?_) rfl (by kernel_rfl) (by kernel_rfl) (by kernel_rfl) (fun _ _ _ h => h) (Or.inl ⟨by rfl, ?_⟩) hHeld ?_
  rotate_left
  · intro w hSw
    try dsimp only at hSw
    go_simp
    try (with_reducible rfl)
  simp only [Act.put, List.setIfInBounds_toArray, List.set_cons_zero, List.set_cons_succ]
  refine wpAnyH_take (i := 19) (oi := { dst := some 22, op := Go.Op.move (Go.Operand.tmp 21), type := 4, pos := "l12_evid.go:78", after := #[{ on := 18, ground := Go.Ground.data }, { on := 16, ground := Go.Ground.chain }], guard := none }) (v := ?_) rfl (by kernel_rfl) (by kernel_rfl) (by kernel_rfl) (fun _ _ _ h => h) (Or.inl ⟨by rfl, ?_⟩) hHeld ?_
  rotate_left
  · intro w hSw
    try dsimp only at hSw
    go_simp
    try (with_reducible rfl)
  simp only [Act.put, List.setIfInBounds_toArray, List.set_cons_zero, List.set_cons_succ]
  refine wpAnyH_take (i := 20) (oi := { dst := some 23, op := Go.Op.fieldAddr 34 (Go.Operand.tmp 1) 0, type := 0, pos := "l12_evid.go:78", after := #[{ on := 19, ground := Go.Ground.guard }], guard := some (19, true) }) (v := undef) rfl (by kernel_rfl) (by kernel_rfl) (by kernel_rfl) (fun _ _ _ h => h) (Or.inr ⟨by rfl, rfl⟩) hHeld ?_
  simp only [Act.put, List.setIfInBounds_toArray, List.set_cons_zero, List.set_cons_succ]
  refine wpAnyH_take (i := 21) (oi := { dst := some 24, op := Go.Op.fieldAddr 32 (Go.Operand.tmp 23) 0, type := 0, pos := "l12_evid.go:78", after := #[{ on := 20, ground := Go.Ground.data }, { on := 19, ground := Go.Ground.guard }], guard := some (19, true) }) (v := undef) rfl (by kernel_rfl) (by kernel_rfl) (by kernel_rfl) (fun _ _ _ h => h) (Or.inr ⟨by rfl, rfl⟩) hHeld ?_
  simp only [Act.put, List.setIfInBounds_toArray, List.set_cons_zero, List.set_cons_succ]
  refine wpAnyH_take (i := 22) (oi := { dst := some 25, op := Go.Op.fieldAddr 30 (Go.Operand.tmp 24) 3, type := 0, pos := "l12_evid.go:78", after := #[{ on := 21, ground := Go.Ground.data }, { on := 19, ground := Go.Ground.guard }], guard := some (19, true) }) (v := undef) rfl (by kernel_rfl) (by kernel_rfl) (by kernel_rfl) (fun _ _ _ h => h) (Or.inr ⟨by rfl, rfl⟩) hHeld ?_
  simp only [Act.put, List.setIfInBounds_toArray, List.set_cons_zero, List.set_cons_succ]
  refine wpAnyH_take (i := 23) (oi := { dst := some 26, op := Go.Op.load 9 (Go.Operand.tmp 25), type := 9, pos := "l12_evid.go:78", after := #[{ on := 22, ground := Go.Ground.data }, { on := 19, ground := Go.Ground.guard }], guard := some (19, true) }) (v := undef) rfl (by kernel_rfl) (by kernel_rfl) (by kernel_rfl) (fun _ _ _ h => h) (Or.inr ⟨by rfl, rfl⟩) hHeld ?_
  simp only [Act.put, List.setIfInBounds_toArray, List.set_cons_zero, List.set_cons_succ]
  refine wpAnyH_take (i := 24) (oi := { dst := some 27, op := Go.Op.fieldAddr 34 (Go.Operand.tmp 1) 1, type := 0, pos := "l12_evid.go:78", after := #[{ on := 19, ground := Go.Ground.guard }], guard := some (19, true) }) (v := undef) rfl (by kernel_rfl) (by kernel_rfl) (by kernel_rfl) (fun _ _ _ h => h) (Or.inr ⟨by rfl, rfl⟩) hHeld ?_
  simp only [Act.put, List.setIfInBounds_toArray, List.set_cons_zero, List.set_cons_succ]
  refine wpAnyH_take (i := 25) (oi := { dst := some 28, op := Go.Op.fieldAddr 32 (Go.Operand.tmp 27) 0, type := 0, pos := "l12_evid.go:78", after := #[{ on := 24, ground := Go.Ground.data }, { on := 19, ground := Go.Ground.guard }], guard := some (19, true) }) (v := undef) rfl (by kernel_rfl) (by kernel_rfl) (by kernel_rfl) (fun _ _ _ h => h) (Or.inr ⟨by rfl, rfl⟩) hHeld ?_
  simp only [Act.put, List.setIfInBounds_toArray, List.set_cons_zero, List.set_cons_succ]
  refine wpAnyH_take (i := 26) (oi := { dst := some 29, op := Go.Op.fieldAddr 30 (Go.Operand.tmp 28) 3, type := 0, pos := "l12_evid.go:78", after := #[{ on := 25, ground := Go.Ground.data }, { on := 19, ground := Go.Ground.guard }], guard := some (19, true) }) (v := undef) rfl (by kernel_rfl) (by kernel_rfl) (by kernel_rfl) (fun _ _ _ h => h) (Or.inr ⟨by rfl, rfl⟩) hHeld ?_
  simp only [Act.put, List.setIfInBounds_toArray, List.set_cons_zero, List.set_cons_succ]
  refine wpAnyH_take (i := 27) (oi := { dst := some 30, op := Go.Op.load 9 (Go.Operand.tmp 29), type := 9, pos := "l12_evid.go:78", after := #[{ on := 26, ground := Go.Ground.data }, { on := 19, ground := Go.Ground.guard }], guard := some (19, true) }) (v := undef) rfl (by kernel_rfl) (by kernel_rfl) (by kernel_rfl) (fun _ _ _ h => h) (Or.inr ⟨by rfl, rfl⟩) hHeld ?_
  simp only [Act.put, List.setIfInBounds_toArray, List.set_cons_zero, List.set_cons_succ]
  refine wpAnyH_take (i := 28) (oi := { dst := some 31, op := Go.Op.binOp Go.BinOp.neq 9 (Go.Operand.tmp 26) (Go.Operand.tmp 30) 9, type := 4, pos := "l12_evid.go:78", after := #[{ on := 23, ground := Go.Ground.data }, { on := 27, ground := Go.Ground.data }, { on := 19, ground := Go.Ground.guard }], guard := some (19, true) }) (v := undef) rfl (by kernel_rfl) (by kernel_rfl) (by kernel_rfl) (fun _ _ _ h => h) (Or.inr ⟨by rfl, rfl⟩) hHeld ?_
  simp only [Act.put, List.setIfInBounds_toArray, List.set_cons_zero, List.set_cons_succ]
  refine wpAnyH_take (i := 29) (oi := { dst := some 32, op := Go.Op.pick (Go.Operand.tmp 22) (Go.Operand.tmp 31) (Go.Operand.const (Go.Value.bool false)), type := 4, pos := "l12_evid.go:78", after := #[{ on := 19, ground := Go.Ground.data }, { on := 28, ground := Go.Ground.data }], guard := none }) (v := ?_) rfl (by kernel_rfl) (by kernel_rfl) (by kernel_rfl) (fun _ _ _ h => h) (Or.inl ⟨by rfl, ?_⟩) hHeld ?_
  rotate_left
  · intro w hSw
    try dsimp only at hSw
    go_simp
    try (with_reducible rfl)
  simp only [Act.put, List.setIfInBounds_toArray, List.set_cons_zero, List.set_cons_succ]
  refine wpAnyH_take (i := 30) (oi := { dst := some 2, op := Go.Op.assign (Go.Operand.tmp 32), type := 4, pos := "l12_evid.go:78", after := #[{ on := 29, ground := Go.Ground.data }, { on := 19, ground := Go.Ground.chain }, { on := 0, ground := Go.Ground.phase }, { on := 1, ground := Go.Ground.phase }, { on := 2, ground := Go.Ground.phase }, { on := 3, ground := Go.Ground.phase }, { on := 4, ground := Go.Ground.phase }, { on := 5, ground := Go.Ground.phase }, { on := 6, ground := Go.Ground.phase }, { on := 7, ground := Go.Ground.phase }, { on := 8, ground := Go.Ground.phase }, { on := 9, ground := Go.Ground.phase }, { on := 10, ground := Go.Ground.phase }, { on := 11, ground := Go.Ground.phase }, { on := 12, ground := Go.Ground.phase }, { on := 13, ground := Go.Ground.phase }, { on := 14, ground := Go.Ground.phase }, { on := 15, ground := Go.Ground.phase }, { on := 16, ground := Go.Ground.phase }, { on := 17, ground := Go.Ground.phase }, { on := 18, ground := Go.Ground.phase }, { on := 19, ground := Go.Ground.phase }, { on := 20, ground := Go.Ground.phase }, { on := 21, ground := Go.Ground.phase }, { on := 22, ground := Go.Ground.phase }, { on := 23, ground := Go.Ground.phase }, { on := 24, ground := Go.Ground.phase }, { on := 25, ground := Go.Ground.phase }, { on := 26, ground := Go.Ground.phase }, { on := 27, ground := Go.Ground.phase }, { on := 28, ground := Go.Ground.phase }, { on := 29, ground := Go.Ground.phase }], guard := none }) (v := ?_) rfl (by kernel_rfl) (by kernel_rfl) (by kernel_rfl) (fun _ _ _ h => h) (Or.inl ⟨by rfl, ?_⟩) hHeld ?_
  rotate_left
  · intro w hSw
    try dsimp only at hSw
    go_simp
    try (with_reducible rfl)
  simp only [Act.put, List.setIfInBounds_toArray, List.set_cons_zero, List.set_cons_succ]
  refine wpAnyH_done (by kernel_rfl) ?_ _
  go_wp2_with fail
  go_ret
  exact ⟨rfl, HB4.out⟩
set_option maxHeartbeats 3200000 in
set_option maxRecDepth 100000 in
theorem impl_evok4 (a b : Sv) (w : World) (hT : Tab w) (hA : sgB a = true) (hB : sgB b = true) (hC : plc a.x b.x = true) :
    Calls Tryd.prog 18 #[eV a b] w fun e w' => e = .returned (.bool (!decide (a.x.i = b.x.i))) ∧ Below w.heap.size w w' := by
  have HTa : Hid (Tab w) := hT
  clear hT
  have HX : Hid (Blk (w.alloc (.cells (eLs a b).toArray 34)) w.heap.size (eLs a b) 34) := blk_new w _ _
  have HB : Hid (Below w.heap.size w (w.alloc (.cells (eLs a b).toArray 34))) := below_one _ _
  have kA := fun W (hT : Tab W) => impl_sgd a W hT
  have kB := fun W (hT : Tab W) => impl_sgd b W hT
  rw [hA] at kA
  clear hA
  rw [hB] at kB
  clear hB
  have kP := fun W => impl_place a.x W
  have kQ := fun W => impl_place b.x W
  unfold tV pV at kP kQ
  have hgP := guardP
  have hqP := fun W => run_eqP a.x b.x W
  rw [hC] at hqP
  have HI : Hid ((a.x.i.toList == b.x.i.toList) = decide (a.x.i = b.x.i)) := beq_str _ _
  clear hC
  unfold yV at kA kB
  obtain ⟨⟨h, r, s, i, v⟩, g⟩ := a
  obtain ⟨⟨h', r', s', i', v'⟩, g'⟩ := b
  unfold eV
  unfold eLs at HX HB
  try simp only at HX HB kA kB hqP kP kQ HI ⊢
  have HXS : Hid (∀ W, Blk W w.heap.size [Value.int .i64 h, Value.int .i64 r, Value.int .i64 s, Value.string i, Value.int .i64 v, Value.string g, Value.int .i64 h', Value.int .i64 r', Value.int .i64 s', Value.string i', Value.int .i64 v', Value.string g'] 34 → W.cell? ⟨w.heap.size, 0, none⟩ = some (Value.int .i64 h) ∧ W.cell? ⟨w.heap.size, 1, none⟩ = some (Value.int .i64 r) ∧ W.cell? ⟨w.heap.size, 2, none⟩ = some (Value.int .i64 s) ∧ W.cell? ⟨w.heap.size, 3, none⟩ = some (Value.string i) ∧ W.cell? ⟨w.heap.size, 4, none⟩ = some (Value.int .i64 v) ∧ W.cell? ⟨w.heap.size, 5, none⟩ = some (Value.string g) ∧ W.cell? ⟨w.heap.size, 6, none⟩ = some (Value.int .i64 h') ∧ W.cell? ⟨w.heap.size, 7, none⟩ = some (Value.int .i64 r') ∧ W.cell? ⟨w.heap.size, 8, none⟩ = some (Value.int .i64 s') ∧ W.cell? ⟨w.heap.size, 9, none⟩ = some (Value.string i') ∧ W.cell? ⟨w.heap.size, 10, none⟩ = some (Value.int .i64 v') ∧ W.cell? ⟨w.heap.size, 11, none⟩ = some (Value.string g')) := fun W H => ⟨H.cell 0 rfl, H.cell 1 rfl, H.cell 2 rfl, H.cell 3 rfl, H.cell 4 rfl, H.cell 5 rfl, H.cell 6 rfl, H.cell 7 rfl, H.cell 8 rfl, H.cell 9 rfl, H.cell 10 rfl, H.cell 11 rfl⟩
  go_enter Tryd.func18, Tryd.ntmps18
  go_wp2_with fail
  generalize w.alloc (Obj.cells #[Value.int .i64 h, Value.int .i64 r, Value.int .i64 s, Value.string i, Value.int .i64 v, Value.string g, Value.int .i64 h', Value.int .i64 r', Value.int .i64 s', Value.string i', Value.int .i64 v', Value.string g'] 34) = w0 at *
  have HT0 : Hid (Tab w0) := HTa.out.below HB.out HTa.out.pos
  have HX0 : Hid (Blk w0.drew w.heap.size [Value.int .i64 h, Value.int .i64 r, Value.int .i64 s, Value.string i, Value.int .i64 v, Value.string g, Value.int .i64 h', Value.int .i64 r', Value.int .i64 s', Value.string i', Value.int .i64 v', Value.string g'] 34) := HX.out
  have HB0 : Hid (Below w.heap.size w w0.drew) := HB.out.drew
  have HTd : Hid (Tab w0.drew) := HT0.out.below (Below.refl _ _).drew HT0.out.pos
  clear HX HB HT0
  refine wp_region_held_drew (S := (fun W : World => W.cell? ⟨w.heap.size, 0, none⟩ = some (Value.int .i64 h) ∧ W.cell? ⟨w.heap.size, 1, none⟩ = some (Value.int .i64 r) ∧ W.cell? ⟨w.heap.size, 2, none⟩ = some (Value.int .i64 s) ∧ W.cell? ⟨w.heap.size, 3, none⟩ = some (Value.string i) ∧ W.cell? ⟨w.heap.size, 4, none⟩ = some (Value.int .i64 v) ∧ W.cell? ⟨w.heap.size, 5, none⟩ = some (Value.string g) ∧ W.cell? ⟨w.heap.size, 6, none⟩ = some (Value.int .i64 h') ∧ W.cell? ⟨w.heap.size, 7, none⟩ = some (Value.int .i64 r') ∧ W.cell? ⟨w.heap.size, 8, none⟩ = some (Value.int .i64 s') ∧ W.cell? ⟨w.heap.size, 9, none⟩ = some (Value.string i') ∧ W.cell? ⟨w.heap.size, 10, none⟩ = some (Value.int .i64 v') ∧ W.cell? ⟨w.heap.size, 11, none⟩ = some (Value.string g'))) (by kernel_rfl) ?_ (fun hHeld => ?_)
  · exact HXS.out _ HX0.out
  refine wpAnyH_take (i := 0) (oi := { dst := some 3, op := Go.Op.fieldAddr 34 (Go.Operand.tmp 1) 0, type := 0, pos := "l12_evid.go:78", after := #[], guard := none }) (v := ?_) rfl (by kernel_rfl) (by kernel_rfl) (by kernel_rfl) (fun _ _ _ h => h) (Or.inl ⟨by rfl, ?_⟩) hHeld ?_
  rotate_left
  · intro w hSw
    try dsimp only at hSw
    go_simp
    try (with_reducible rfl)
  simp only [Act.put, List.setIfInBounds_toArray, List.set_cons_zero, List.set_cons_succ]
  refine wpAnyH_take (i := 1) (oi := { dst := some 4, op := Go.Op.load 32 (Go.Operand.tmp 3), type := 32, pos := "l12_evid.go:78", after := #[{ on := 0, ground := Go.Ground.data }], guard := none }) (v := ?_) rfl (by kernel_rfl) (by kernel_rfl) (by kernel_rfl) (fun _ _ _ h => h) (Or.inl ⟨by rfl, ?_⟩) hHeld ?_
  rotate_left
  · intro w hSw
    try dsimp only at hSw
    go_simp
    try (with_reducible rfl)
  simp only [Act.put, List.setIfInBounds_toArray, List.set_cons_zero, List.set_cons_succ]
  refine wpAnyH_ready (rs := [2]) (by kernel_rfl) (by decide) ?_
  refine AllReadyH.cons (o := { dst := some 5, op := Go.Op.call { callee := Go.Callee.value (Go.Operand.func 40), args := #[Go.Operand.tmp 4], argTypes := #[32] }, type := 4, pos := "l12_evid.go:78", after := #[{ on := 1, ground := Go.Ground.data }], guard := none }) rfl (fun K hK => ?_) AllReadyH.nil
  go_simp
  refine (kA _ (HTa.out.below HB0.out HTa.out.pos)).mono ?_; rintro e w1 ⟨rfl, b1⟩; have HX1 : Hid (Blk w1 w.heap.size [Value.int .i64 h, Value.int .i64 r, Value.int .i64 s, Value.string i, Value.int .i64 v, Value.string g, Value.int .i64 h', Value.int .i64 r', Value.int .i64 s', Value.string i', Value.int .i64 v', Value.string g'] 34) := HX0.out.below b1 HX0.out.lt; have HB1 : Hid (Below w.heap.size w w1) := HB0.out.trans (b1.mono HB0.out.size)
  refine hK.out _ _ (HXS.out _ HX1.out) (fun hHeld => ?_)
  clear hK K
  refine wpAnyH_take (i := 3) (oi := { dst := some 6, op := Go.Op.move (Go.Operand.tmp 5), type := 4, pos := "l12_evid.go:78", after := #[{ on := 2, ground := Go.Ground.data }, { on := 2, ground := Go.Ground.chain }], guard := none }) (v := ?_) rfl (by kernel_rfl) (by kernel_rfl) (by kernel_rfl) (fun _ _ _ h => h) (Or.inl ⟨by rfl, ?_⟩) hHeld ?_
  rotate_left
  · intro w hSw
    try dsimp only at hSw
    go_simp
    try (with_reducible rfl)
  simp only [Act.put, List.setIfInBounds_toArray, List.set_cons_zero, List.set_cons_succ]
  refine wpAnyH_take (i := 4) (oi := { dst := some 7, op := Go.Op.fieldAddr 34 (Go.Operand.tmp 1) 1, type := 0, pos := "l12_evid.go:78", after := #[{ on := 3, ground := Go.Ground.guard }], guard := some (3, true) }) (v := ?_) rfl (by kernel_rfl) (by kernel_rfl) (by kernel_rfl) (fun _ _ _ h => h) (Or.inl ⟨by rfl, ?_⟩) hHeld ?_
  rotate_left
  · intro w hSw
    try dsimp only at hSw
    go_simp
    try (with_reducible rfl)
  simp only [Act.put, List.setIfInBounds_toArray, List.set_cons_zero, List.set_cons_succ]
  refine wpAnyH_take (i := 5) (oi := { dst := some 8, op := Go.Op.load 32 (Go.Operand.tmp 7), type := 32, pos := "l12_evid.go:78", after := #[{ on := 4, ground := Go.Ground.data }, { on := 3, ground := Go.Ground.guard }], guard := some (3, true) }) (v := ?_) rfl (by kernel_rfl) (by kernel_rfl) (by kernel_rfl) (fun _ _ _ h => h) (Or.inl ⟨by rfl, ?_⟩) hHeld ?_
  rotate_left
  · intro w hSw
    try dsimp only at hSw
    go_simp
    try (with_reducible rfl)
  simp only [Act.put, List.setIfInBounds_toArray, List.set_cons_zero, List.set_cons_succ]
  refine wpAnyH_ready (rs := [6]) (by kernel_rfl) (by decide) ?_
  refine AllReadyH.cons (o := { dst := some 9, op := Go.Op.call { callee := Go.Callee.value (Go.Operand.func 40), args := #[Go.Operand.tmp 8], argTypes := #[32] }, type := 4, pos := "l12_evid.go:78", after := #[{ on := 5, ground := Go.Ground.data }, { on := 3, ground := Go.Ground.chain }, { on := 3, ground := Go.Ground.guard }], guard := some (3, true) }) rfl (fun K hK => ?_) AllReadyH.nil
  go_simp
  refine (kB _ (HTa.out.below HB1.out HTa.out.pos)).mono ?_; rintro e w2 ⟨rfl, b2⟩; have HX2 : Hid (Blk w2 w.heap.size [Value.int .i64 h, Value.int .i64 r, Value.int .i64 s, Value.string i, Value.int .i64 v, Value.string g, Value.int .i64 h', Value.int .i64 r', Value.int .i64 s', Value.string i', Value.int .i64 v', Value.string g'] 34) := HX1.out.below b2 HX1.out.lt; have HB2 : Hid (Below w.heap.size w w2) := HB1.out.trans (b2.mono HB1.out.size)
  refine hK.out _ _ (HXS.out _ HX2.out) (fun hHeld => ?_)
  clear hK K
  refine wpAnyH_take (i := 7) (oi := { dst := some 10, op := Go.Op.pick (Go.Operand.tmp 6) (Go.Operand.tmp 9) (Go.Operand.const (Go.Value.bool false)), type := 4, pos := "l12_evid.go:78", after := #[{ on := 3, ground := Go.Ground.data }, { on := 6, ground := Go.Ground.data }], guard := none }) (v := ?_) rfl (by kernel_rfl) (by kernel_rfl) (by kernel_rfl) (fun _ _ _ h => h) (Or.inl ⟨by rfl, ?_⟩) hHeld ?_
  rotate_left
  · intro w hSw
    try dsimp only at hSw
    go_simp
    try (with_reducible rfl)
  simp only [Act.put, List.setIfInBounds_toArray, List.set_cons_zero, List.set_cons_succ]
  refine wpAnyH_take (i := 8) (oi := { dst := some 11, op := Go.Op.move (Go.Operand.tmp 10), type := 4, pos := "l12_evid.go:78", after := #[{ on := 7, ground := Go.Ground.data }, { on := 6, ground := Go.Ground.chain }], guard := none }) (v := ?_) rfl (by kernel_rfl) (by kernel_rfl) (by kernel_rfl) (fun _ _ _ h => h) (Or.inl ⟨by rfl, ?_⟩) hHeld ?_
  rotate_left
  · intro w hSw
    try dsimp only at hSw
    go_simp
    try (with_reducible rfl)
  simp only [Act.put, List.setIfInBounds_toArray, List.set_cons_zero, List.set_cons_succ]
  refine wpAnyH_take (i := 9) (oi := { dst := some 12, op := Go.Op.fieldAddr 34 (Go.Operand.tmp 1) 0, type := 0, pos := "l12_evid.go:78", after := #[{ on := 8, ground := Go.Ground.guard }], guard := some (8, true) }) (v := ?_) rfl (by kernel_rfl) (by kernel_rfl) (by kernel_rfl) (fun _ _ _ h => h) (Or.inl ⟨by rfl, ?_⟩) hHeld ?_
  rotate_left
  · intro w hSw
    try dsimp only at hSw
    go_simp
    try (with_reducible rfl)
  simp only [Act.put, List.setIfInBounds_toArray, List.set_cons_zero, List.set_cons_succ]
  refine wpAnyH_take (i := 10) (oi := { dst := some 13, op := Go.Op.fieldAddr 32 (Go.Operand.tmp 12) 0, type := 0, pos := "l12_evid.go:78", after := #[{ on := 9, ground := Go.Ground.data }, { on := 8, ground := Go.Ground.guard }], guard := some (8, true) }) (v := ?_) rfl (by kernel_rfl) (by kernel_rfl) (by kernel_rfl) (fun _ _ _ h => h) (Or.inl ⟨by rfl, ?_⟩) hHeld ?_
  rotate_left
  · intro w hSw
    try dsimp only at hSw
    go_simp
    try (with_reducible rfl)
  simp only [Act.put, List.setIfInBounds_toArray, List.set_cons_zero, List.set_cons_succ]
  refine wpAnyH_take (i := 11) (oi := { dst := some 14, op := Go.Op.load 30 (Go.Operand.tmp 13), type := 30, pos := "l12_evid.go:78", after := #[{ on := 10, ground := Go.Ground.data }, { on := 8, ground := Go.Ground.guard }], guard := some (8, true) }) (v := ?_) rfl (by kernel_rfl) (by kernel_rfl) (by kernel_rfl) (fun _ _ _ h => h) (Or.inl ⟨by rfl, ?_⟩) hHeld ?_
  rotate_left
  · intro w hSw
    try dsimp only at hSw
    go_simp
    try (with_reducible rfl)
  simp only [Act.put, List.setIfInBounds_toArray, List.set_cons_zero, List.set_cons_succ]
  refine wpAnyH_take (i := 13) (oi := { dst := some 16, op := Go.Op.fieldAddr 34 (Go.Operand.tmp 1) 1, type := 0, pos := "l12_evid.go:78", after := #[{ on := 8, ground := Go.Ground.guard }], guard := some (8, true) }) (v := ?_) rfl (by kernel_rfl) (by kernel_rfl) (by kernel_rfl) (fun _ _ _ h => h) (Or.inl ⟨by rfl, ?_⟩) hHeld ?_
  rotate_left
  · intro w hSw
    try dsimp only at hSw
    go_simp
    try (with_reducible rfl)
  simp only [Act.put, List.setIfInBounds_toArray, List.set_cons_zero, List.set_cons_succ]
  refine wpAnyH_take (i := 14) (oi := { dst := some 17, op := Go.Op.fieldAddr 32 (Go.Operand.tmp 16) 0, type := 0, pos := "l12_evid.go:78", after := #[{ on := 13, ground := Go.Ground.data }, { on := 8, ground := Go.Ground.guard }], guard := some (8, true) }) (v := ?_) rfl (by kernel_rfl) (by kernel_rfl) (by kernel_rfl) (fun _ _ _ h => h) (Or.inl ⟨by rfl, ?_⟩) hHeld ?_
  rotate_left
  · intro w hSw
    try dsimp only at hSw
    go_simp
    try (with_reducible rfl)
  simp only [Act.put, List.setIfInBounds_toArray, List.set_cons_zero, List.set_cons_succ]
  refine wpAnyH_take (i := 15) (oi := { dst := some 18, op := Go.Op.load 30 (Go.Operand.tmp 17), type := 30, pos := "l12_evid.go:78", after := #[{ on := 14, ground := Go.Ground.data }, { on := 8, ground := Go.Ground.guard }], guard := some (8, true) }) (v := ?_) rfl (by kernel_rfl) (by kernel_rfl) (by kernel_rfl) (fun _ _ _ h => h) (Or.inl ⟨by rfl, ?_⟩) hHeld ?_
  rotate_left
  · intro w hSw
    try dsimp only at hSw
    go_simp
    try (with_reducible rfl)
  simp only [Act.put, List.setIfInBounds_toArray, List.set_cons_zero, List.set_cons_succ]
  refine wpAnyH_ready (rs := [12]) (by kernel_rfl) (by decide) ?_
  refine AllReadyH.cons (o := { dst := some 15, op := Go.Op.call { callee := Go.Callee.value (Go.Operand.func 41), args := #[Go.Operand.tmp 14], argTypes := #[30] }, type := 71, pos := "l12_evid.go:78", after := #[{ on := 11, ground := Go.Ground.data }, { on := 8, ground := Go.Ground.chain }, { on := 8, ground := Go.Ground.guard }], guard := some (8, true) }) rfl (fun K hK => ?_) AllReadyH.nil
  go_simp
  refine (kP _).mono ?_; rintro e w3 ⟨rfl, b3⟩; have HX3 : Hid (Blk w3 w.heap.size [Value.int .i64 h, Value.int .i64 r, Value.int .i64 s, Value.string i, Value.int .i64 v, Value.string g, Value.int .i64 h', Value.int .i64 r', Value.int .i64 s', Value.string i', Value.int .i64 v', Value.string g'] 34) := HX2.out.below b3 HX2.out.lt; have HB3 : Hid (Below w.heap.size w w3) := HB2.out.trans (b3.mono HB2.out.size)
  refine hK.out _ _ (HXS.out _ HX3.out) (fun hHeld => ?_)
  clear hK K
  refine wpAnyH_ready (rs := [16]) (by kernel_rfl) (by decide) ?_
  refine AllReadyH.cons (o := { dst := some 19, op := Go.Op.call { callee := Go.Callee.value (Go.Operand.func 41), args := #[Go.Operand.tmp 18], argTypes := #[30] }, type := 71, pos := "l12_evid.go:78", after := #[{ on := 15, ground := Go.Ground.data }, { on := 12, ground := Go.Ground.chain }, { on := 8, ground := Go.Ground.guard }], guard := some (8, true) }) rfl (fun K hK => ?_) AllReadyH.nil
  go_simp
  refine (kQ _).mono ?_; rintro e w4 ⟨rfl, b4⟩; have HX4 : Hid (Blk w4 w.heap.size [Value.int .i64 h, Value.int .i64 r, Value.int .i64 s, Value.string i, Value.int .i64 v, Value.string g, Value.int .i64 h', Value.int .i64 r', Value.int .i64 s', Value.string i', Value.int .i64 v', Value.string g'] 34) := HX3.out.below b4 HX3.out.lt; have HB4 : Hid (Below w.heap.size w w4) := HB3.out.trans (b4.mono HB3.out.size)
  refine hK.out _ _ (HXS.out _ HX4.out) (fun hHeld => ?_)
  clear hK K
  refine wpAnyH_take (i := 17) (oi := { dst := some 20, op := Go.Op.binOp Go.BinOp.eql 71 (Go.Operand.tmp 15) (Go.Operand.tmp 19) 71, type := 4, pos := "l12_evid.go:78", after := #[{ on := 12, ground := Go.Ground.data }, { on := 16, ground := Go.Ground.data }, { on := 8, ground := Go.Ground.guard }], guard := some (8, true) }) (v := ?_) rfl (by kernel_rfl) (by kernel_rfl) (by kernel_rfl) (fun _ _ _ h => h) (Or.inl ⟨by rfl, ?_⟩) hHeld ?_
  rotate_left
  · intro w hSw
    try dsimp only at hSw
    go_simp
    try (with_reducible rfl)
  simp only [Act.put, List.setIfInBounds_toArray, List.set_cons_zero, List.set_cons_succ]
  refine wpAnyH_take (i := 18) (oi := { dst := some 21, op := Go.Op.pick (Go.Operand.tmp 11) (Go.Operand.tmp 20) (Go.Operand.const (Go.Value.bool false)), type := 4, pos := "l12_evid.go:78", after := #[{ on := 8, ground := Go.Ground.data }, { on := 17, ground := Go.Ground.data }], guard := none }) (v := ?_) rfl (by kernel_rfl) (by kernel_rfl) (by kernel_rfl) (fun _ _ _ h => h) (Or.inl ⟨by rfl, ?_⟩) hHeld ?_
  rotate_left
  · intro w hSw
    try dsimp only at hSw
    go_simp
    try (with_reducible rfl)
  simp only [Act.put, List.setIfInBounds_toArray, List.set_cons_zero, List.set_cons_succ]
  refine wpAnyH_take (i := 19) (oi := { dst := some 22, op := Go.Op.move (Go.Operand.tmp 21), type := 4, pos := "l12_evid.go:78", after := #[{ on := 18, ground := Go.Ground.data }, { on := 16, ground := Go.Ground.chain }], guard := none }) (v := ?_) rfl (by kernel_rfl) (by kernel_rfl) (by kernel_rfl) (fun _ _ _ h => h) (Or.inl ⟨by rfl, ?_⟩) hHeld ?_
  rotate_left
  · intro w hSw
    try dsimp only at hSw
    go_simp
    try (with_reducible rfl)
  simp only [Act.put, List.setIfInBounds_toArray, List.set_cons_zero, List.set_cons_succ]
  refine wpAnyH_take (i := 20) (oi := { dst := some 23, op := Go.Op.fieldAddr 34 (Go.Operand.tmp 1) 0, type := 0, pos := "l12_evid.go:78", after := #[{ on := 19, ground := Go.Ground.guard }], guard := some (19, true) }) (v := ?_) rfl (by kernel_rfl) (by kernel_rfl) (by kernel_rfl) (fun _ _ _ h => h) (Or.inl ⟨by rfl, ?_⟩) hHeld ?_
  rotate_left
  · intro w hSw
    try dsimp only at hSw
    go_simp
    try (with_reducible rfl)
  simp only [Act.put, List.setIfInBounds_toArray, List.set_cons_zero, List.set_cons_succ]
  refine wpAnyH_take (i := 21) (oi := { dst := some 24, op := Go.Op.fieldAddr 32 (Go.Operand.tmp 23) 0, type := 0, pos := "l12_evid.go:78", after := #[{ on := 20, ground := Go.Ground.data }, { on := 19, ground := Go.Ground.guard }], guard := some (19, true) }) (v := ?_) rfl (by kernel_rfl) (by kernel_rfl) (by kernel_rfl) (fun _ _ _ h => h) (Or.inl ⟨by rfl, ?_⟩) hHeld ?_
  rotate_left
  · intro w hSw
    try dsimp only at hSw
    go_simp
    try (with_reducible rfl)
  simp only [Act.put, List.setIfInBounds_toArray, List.set_cons_zero, List.set_cons_succ]
  refine wpAnyH_take (i := 22) (oi := { dst := some 25, op := Go.Op.fieldAddr 30 (Go.Operand.tmp 24) 3, type := 0, pos := "l12_evid.go:78", after := #[{ on := 21, ground := Go.Ground.data }, { on := 19, ground := Go.Ground.guard }], guard := some (19, true) }) (v := ?_) rfl (by kernel_rfl) (by kernel_rfl) (by kernel_rfl) (fun _ _ _ h => h) (Or.inl ⟨by rfl, ?_⟩) hHeld ?_
  rotate_left
  · intro w hSw
    try dsimp only at hSw
    go_simp
    try (with_reducible rfl)
  simp only [Act.put, List.setIfInBounds_toArray, List.set_cons_zero, List.set_cons_succ]
  refine wpAnyH_take (i := 23) (oi := { dst := some 26, op := Go.Op.load 9 (Go.Operand.tmp 25), type := 9, pos := "l12_evid.go:78", after := #[{ on := 22, ground := Go.Ground.data }, { on := 19, ground := Go.Ground.guard }], guard := some (19, true) }) (v := ?_) rfl (by kernel_rfl) (by kernel_rfl) (by kernel_rfl) (fun _ _ _ h => h) (Or.inl ⟨by rfl, ?_⟩) hHeld ?_
  rotate_left
  · intro w hSw
    try dsimp only at hSw
    go_simp
    try (with_reducible rfl)
  simp only [Act.put, List.setIfInBounds_toArray, List.set_cons_zero, List.set_cons_succ]
  refine wpAnyH_take (i := 24) (oi := { dst := some 27, op := Go.Op.fieldAddr 34 (Go.Operand.tmp 1) 1, type := 0, pos := "l12_evid.go:78", after := #[{ on := 19, ground := Go.Ground.guard }], guard := some (19, true) }) (v := ?_) rfl (by kernel_rfl) (by kernel_rfl) (by kernel_rfl) (fun _ _ _ h => h) (Or.inl ⟨by rfl, ?_⟩) hHeld ?_
  rotate_left
  · intro w hSw
    try dsimp only at hSw
    go_simp
    try (with_reducible rfl)
  simp only [Act.put, List.setIfInBounds_toArray, List.set_cons_zero, List.set_cons_succ]
  refine wpAnyH_take (i := 25) (oi := { dst := some 28, op := Go.Op.fieldAddr 32 (Go.Operand.tmp 27) 0, type := 0, pos := "l12_evid.go:78", after := #[{ on := 24, ground := Go.Ground.data }, { on := 19, ground := Go.Ground.guard }], guard := some (19, true) }) (v := ?_) rfl (by kernel_rfl) (by kernel_rfl) (by kernel_rfl) (fun _ _ _ h => h) (Or.inl ⟨by rfl, ?_⟩) hHeld ?_
  rotate_left
  · intro w hSw
    try dsimp only at hSw
    go_simp
    try (with_reducible rfl)
  simp only [Act.put, List.setIfInBounds_toArray, List.set_cons_zero, List.set_cons_succ]
  refine wpAnyH_take (i := 26) (oi := { dst := some 29, op := Go.Op.fieldAddr 30 (Go.Operand.tmp 28) 3, type := 0, pos := "l12_evid.go:78", after := #[{ on := 25, ground := Go.Ground.data }, { on := 19, ground := Go.Ground.guard }], guard := some (19, true) }) (v := ?_) rfl (by kernel_rfl) (by kernel_rfl) (by kernel_rfl) (fun _ _ _ h => h) (Or.inl ⟨by rfl, ?_⟩) hHeld ?_
  rotate_left
  · intro w hSw
    try dsimp only at hSw
    go_simp
    try (with_reducible rfl)
  simp only [Act.put, List.setIfInBounds_toArray, List.set_cons_zero, List.set_cons_succ]
  refine wpAnyH_take (i := 27) (oi := { dst := some 30, op := Go.Op.load 9 (Go.Operand.tmp 29), type := 9, pos := "l12_evid.go:78", after := #[{ on := 26, ground := Go.Ground.data }, { on := 19, ground := Go.Ground.guard }], guard := some (19, true) }) (v := ?_) rfl (by kernel_rfl) (by kernel_rfl) (by kernel_rfl) (fun _ _ _ h => h) (Or.inl ⟨by rfl, ?_⟩) hHeld ?_
  rotate_left
  · intro w hSw
    try dsimp only at hSw
    go_simp
    try (with_reducible rfl)
  simp only [Act.put, List.setIfInBounds_toArray, List.set_cons_zero, List.set_cons_succ]
  refine wpAnyH_take (i := 28) (oi := { dst := some 31, op := Go.Op.binOp Go.BinOp.neq 9 (Go.Operand.tmp 26) (Go.Operand.tmp 30) 9, type := 4, pos := "l12_evid.go:78", after := #[{ on := 23, ground := Go.Ground.data }, { on := 27, ground := Go.Ground.data }, { on := 19, ground := Go.Ground.guard }], guard := some (19, true) }) (v := ?_) rfl (by kernel_rfl) (by kernel_rfl) (by kernel_rfl) (fun _ _ _ h => h) (Or.inl ⟨by rfl, ?_⟩) hHeld ?_
  rotate_left
  · intro w hSw
    try dsimp only at hSw
    go_simp
    try (with_reducible rfl)
  simp only [Act.put, List.setIfInBounds_toArray, List.set_cons_zero, List.set_cons_succ]
  refine wpAnyH_take (i := 29) (oi := { dst := some 32, op := Go.Op.pick (Go.Operand.tmp 22) (Go.Operand.tmp 31) (Go.Operand.const (Go.Value.bool false)), type := 4, pos := "l12_evid.go:78", after := #[{ on := 19, ground := Go.Ground.data }, { on := 28, ground := Go.Ground.data }], guard := none }) (v := ?_) rfl (by kernel_rfl) (by kernel_rfl) (by kernel_rfl) (fun _ _ _ h => h) (Or.inl ⟨by rfl, ?_⟩) hHeld ?_
  rotate_left
  · intro w hSw
    try dsimp only at hSw
    go_simp
    try (with_reducible rfl)
  simp only [Act.put, List.setIfInBounds_toArray, List.set_cons_zero, List.set_cons_succ]
  refine wpAnyH_take (i := 30) (oi := { dst := some 2, op := Go.Op.assign (Go.Operand.tmp 32), type := 4, pos := "l12_evid.go:78", after := #[{ on := 29, ground := Go.Ground.data }, { on := 19, ground := Go.Ground.chain }, { on := 0, ground := Go.Ground.phase }, { on := 1, ground := Go.Ground.phase }, { on := 2, ground := Go.Ground.phase }, { on := 3, ground := Go.Ground.phase }, { on := 4, ground := Go.Ground.phase }, { on := 5, ground := Go.Ground.phase }, { on := 6, ground := Go.Ground.phase }, { on := 7, ground := Go.Ground.phase }, { on := 8, ground := Go.Ground.phase }, { on := 9, ground := Go.Ground.phase }, { on := 10, ground := Go.Ground.phase }, { on := 11, ground := Go.Ground.phase }, { on := 12, ground := Go.Ground.phase }, { on := 13, ground := Go.Ground.phase }, { on := 14, ground := Go.Ground.phase }, { on := 15, ground := Go.Ground.phase }, { on := 16, ground := Go.Ground.phase }, { on := 17, ground := Go.Ground.phase }, { on := 18, ground := Go.Ground.phase }, { on := 19, ground := Go.Ground.phase }, { on := 20, ground := Go.Ground.phase }, { on := 21, ground := Go.Ground.phase }, { on := 22, ground := Go.Ground.phase }, { on := 23, ground := Go.Ground.phase }, { on := 24, ground := Go.Ground.phase }, { on := 25, ground := Go.Ground.phase }, { on := 26, ground := Go.Ground.phase }, { on := 27, ground := Go.Ground.phase }, { on := 28, ground := Go.Ground.phase }, { on := 29, ground := Go.Ground.phase }], guard := none }) (v := ?_) rfl (by kernel_rfl) (by kernel_rfl) (by kernel_rfl) (fun _ _ _ h => h) (Or.inl ⟨by rfl, ?_⟩) hHeld ?_
  rotate_left
  · intro w hSw
    try dsimp only at hSw
    go_simp
    try (with_reducible rfl)
  simp only [Act.put, List.setIfInBounds_toArray, List.set_cons_zero, List.set_cons_succ]
  refine wpAnyH_done (by kernel_rfl) ?_ _
  go_wp2_with fail
  go_ret
  exact ⟨by simp [HI.out], HB4.out⟩
theorem impl_evok (a b : Sv) (w : World) (hT : Tab w) :
    Calls Tryd.prog 18 #[eV a b] w fun e w' => e = .returned (.bool (evB a b)) ∧ Below w.heap.size w w' := by
  unfold evB
  cases hA : sgB a with
  | false => exact impl_evok1 a b w hT hA
  | true =>
    cases hB : sgB b with
    | false => exact impl_evok2 a b w hT hA hB
    | true =>
      cases hC : plc a.x b.x with
      | false => exact impl_evok3 a b w hT hA hB hC
      | true => exact impl_evok4 a b w hT hA hB hC
end Go.Proofs.YtclajbadeclbdaaDoor
