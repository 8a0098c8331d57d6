/- Guards and signers in plain terms and as values; guards compared; the small functions on both sides. Conditions: none of ours. -/
import Derived.Test.YtmjlpdmdpagggaaVo
import Derived.Test.YtmjlpdmdpagggaaBk
import Derived.Laws.StructEq
namespace Go.Proofs.Ytmjlpdmdpagggaa
open Go.RowKit
open Num
set_option linter.unusedVariables false
/-- A guard: height, round, step, id. -/
structure Gt where
  h : Int
  r : Int
  s : Int
  i : ByteArray
def gz : Gt := ⟨0, 0, 0, ⟨#[]⟩⟩
def gvo (g : Gt) (n : Int) : Vt := ⟨g.h, g.r, g.s, g.i, n⟩
def ofV (x : Vt) : Gt := ⟨x.h, x.r, x.s, x.i⟩
def geB (a b : Gt) : Bool := decide (a.h = b.h) && (decide (a.r = b.r) && (decide (a.s = b.s) && decide (a.i = b.i)))
theorem geB_iff {a b : Gt} : geB a b = true ↔ a = b := by
  obtain ⟨h, r, s, i⟩ := a
  obtain ⟨h', r', s', i'⟩ := b
  simp [geB]
theorem geB_comm (a b : Gt) : geB a b = geB b a := by
  rw [Bool.eq_iff_iff, geB_iff, geB_iff]; exact eq_comm
def gOk (g : Gt) : Bool := geB g gz || voB (gvo g 1)
def gV (g : Gt) : Value := .agg #[.int .i64 g.h, .int .i64 g.r, .int .i64 g.s, .string g.i]
def gcs (g : Gt) : List Value := [.int .i64 g.h, .int .i64 g.r, .int .i64 g.s, .string g.i]
theorem stoodG : Try.prog.stoodInHeld 26 = false := by kernel_rfl
theorem guardG : Try.prog.eqGuardType Try.prog.depth 26 = false := by kernel_rfl
theorem fieldsG : Try.prog.underlying 26 = some (.struct (Try.prog.fieldsOf 26)) := by
  unfold Program.fieldsOf; rw [Try.underlying26]
theorem run_eqG (a b : Gt) (w : World) :
    (binOp .eql 26 (.agg #[.int .i64 a.h, .int .i64 a.r, .int .i64 a.s, .string a.i]) (.agg #[.int .i64 b.h, .int .i64 b.r, .int .i64 b.s, .string b.i])).run Try.prog w = .ok (.bool (geB a b)) w := by
  rw [run_eql_struct, run_equalIn_agg w 9999 26 _ _ fieldsG stoodG]
  unfold geB
  rw [← beq_str]
  simp [go_sem, Program.fieldsOf, Try.underlying26, Try.underlying3, Try.underlying9, Op.eqFields]
  by_cases h0 : a.h = b.h <;> by_cases h1 : a.r = b.r <;> by_cases h2 : a.s = b.s <;> by_cases h3 : a.i.toList = b.i.toList <;> simp [h0, h1, h2, h3]
theorem run_neG (a b : Gt) (w : World) :
    (binOp .neq 26 (.agg #[.int .i64 a.h, .int .i64 a.r, .int .i64 a.s, .string a.i]) (.agg #[.int .i64 b.h, .int .i64 b.r, .int .i64 b.s, .string b.i])).run Try.prog w = .ok (.bool (!(geB a b))) w := by
  rw [run_neq_struct, run_equalIn_agg w 9999 26 _ _ fieldsG stoodG]
  unfold geB
  rw [← beq_str]
  simp [go_sem, Program.fieldsOf, Try.underlying26, Try.underlying3, Try.underlying9, Op.eqFields]
  by_cases h0 : a.h = b.h <;> by_cases h1 : a.r = b.r <;> by_cases h2 : a.s = b.s <;> by_cases h3 : a.i.toList = b.i.toList <;> simp [h0, h1, h2, h3]
theorem below_one (w : World) (o : Obj) : Below w.heap.size w (w.alloc o) := (Below.refl _ _).alloc (Nat.le_refl _) _
theorem below_two (w : World) (o o' : Obj) : Below w.heap.size w ((w.alloc o).alloc o') := ((Below.refl _ _).alloc (Nat.le_refl _) _).alloc (by simp) _
set_option maxHeartbeats 400000 in
set_option maxRecDepth 100000 in
theorem spec_gvo (g : Gt) (n : Int) (w : World) :
    Calls Try.prog 50 #[gV g, .int .i64 n] w fun e w' => e = .returned (tV (gvo g n)) ∧ Below w.heap.size w w' := by
  obtain ⟨h, r, s, i⟩ := g
  unfold gV tV gvo
  simp only
  go_enter Try.func50, Try.ntmps50
  go_wp2
  refine bodyPost_ret (v := .agg #[.int .i64 h, .int .i64 r, .int .i64 s, .string i, .int .i64 n]) (by simp [results, Try.results50, go_sem]) rfl ⟨rfl, ?_⟩
  exact below_two _ _ _
set_option maxHeartbeats 400000 in
set_option maxRecDepth 100000 in
theorem impl_gvo (g : Gt) (n : Int) (w : World) :
    Calls Try.prog 42 #[gV g, .int .i64 n] w fun e w' => e = .returned (tV (gvo g n)) ∧ Below w.heap.size w w' := by
  obtain ⟨h, r, s, i⟩ := g
  unfold gV tV gvo
  simp only
  go_enter Try.func42, Try.ntmps42
  go_wp2
  refine bodyPost_ret (v := .agg #[.int .i64 h, .int .i64 r, .int .i64 s, .string i, .int .i64 n]) (by simp [results, Try.results42, go_sem]) rfl ⟨rfl, ?_⟩
  exact below_two _ _ _
set_option maxHeartbeats 400000 in
set_option maxRecDepth 100000 in
theorem spec_ofv (x : Vt) (w : World) :
    Calls Try.prog 41 #[tV x] w fun e w' => e = .returned (gV (ofV x)) ∧ Below w.heap.size w w' := by
  obtain ⟨h, r, s, i, v⟩ := x
  unfold gV tV ofV
  simp only
  go_enter Try.func41, Try.ntmps41
  go_wp2
  refine bodyPost_ret (v := .agg #[.int .i64 h, .int .i64 r, .int .i64 s, .string i]) (by simp [results, Try.results41, go_sem]) rfl ⟨rfl, ?_⟩
  exact below_two _ _ _
set_option maxHeartbeats 400000 in
set_option maxRecDepth 100000 in
theorem impl_ofv (x : Vt) (w : World) :
    Calls Try.prog 66 #[tV x] w fun e w' => e = .returned (gV (ofV x)) ∧ Below w.heap.size w w' := by
  obtain ⟨h, r, s, i, v⟩ := x
  unfold gV tV ofV
  simp only
  go_enter Try.func66, Try.ntmps66
  go_wp2
  refine bodyPost_ret (v := .agg #[.int .i64 h, .int .i64 r, .int .i64 s, .string i]) (by simp [results, Try.results66, go_sem]) rfl ⟨rfl, ?_⟩
  exact below_two _ _ _
set_option maxHeartbeats 400000 in
set_option maxRecDepth 100000 in
theorem impl_free (g : Gt) (w : World) :
    Calls Try.prog 54 #[gV g] w fun e w' => e = .returned (.bool (geB g gz)) ∧ Below w.heap.size w w' := by
  have hq := fun W => run_eqG g gz W
  unfold gz at hq
  simp only at hq
  have HE : Hid (geB g gz = geB g ⟨0, 0, 0, ⟨#[]⟩⟩) := rfl
  generalize geB g ⟨0, 0, 0, ⟨#[]⟩⟩ = t at *
  have hg := guardG
  obtain ⟨h, r, s, i⟩ := g
  unfold gV
  simp only at hq ⊢
  have HB : Hid (Below w.heap.size w (w.alloc (.cells [.int .i64 h, .int .i64 r, .int .i64 s, .string i].toArray 26))) := below_one _ _
  go_enter Try.func54, Try.ntmps54
  go_wp2
  go_ret
  exact ⟨by rw [HE.out]; rfl, HB.out⟩
set_option maxHeartbeats 800000 in
set_option maxRecDepth 100000 in
theorem spec_gok (g : Gt) (w : World) :
    Calls Try.prog 24 #[gV g] w fun e w' => e = .returned (.bool (gOk g)) ∧ Below w.heap.size w w' := by
  have HO : Hid (gOk g = (geB g gz || voB (gvo g 1))) := rfl
  generalize gOk g = R at *
  have kG := fun W => spec_gvo g 1 W
  have kV := fun W => spec_vok (gvo g 1) W
  have kF := fun W => run_eqG g gz W
  unfold gz at kF
  simp only at kF
  have HE : Hid (geB g gz = geB g ⟨0, 0, 0, ⟨#[]⟩⟩) := rfl
  rw [HE.out] at HO
  clear HE
  have hg := guardG
  generalize voB (gvo g 1) = u at *
  generalize gvo g 1 = x at *
  generalize geB g ⟨0, 0, 0, ⟨#[]⟩⟩ = t at *
  obtain ⟨h, r, s, i⟩ := g
  obtain ⟨xh, xr, xs, xi, xv⟩ := x
  unfold tV at kG kV
  unfold gV at *
  simp only at kF kG kV ⊢
  have HX : Hid (Blk (w.alloc (.cells [.int .i64 h, .int .i64 r, .int .i64 s, .string i].toArray 26)) w.heap.size [.int .i64 h, .int .i64 r, .int .i64 s, .string i] 26) := blk_new _ _ _
  have HB : Hid (Below w.heap.size w (w.alloc (.cells [.int .i64 h, .int .i64 r, .int .i64 s, .string i].toArray 26))) := below_one _ _
  go_enter Try.func24, Try.ntmps24
  cases t
  · go_wp2_with fail
    generalize w.alloc (Obj.cells #[.int .i64 h, .int .i64 r, .int .i64 s, .string i] 26) = w1 at *
    refine (kG _).mono ?_
    rintro e w2 ⟨rfl, b2⟩
    have HB2 : Hid (Below w.heap.size w w2) := HB.out.trans (b2.mono HB.out.size)
    go_wp2_with fail
    refine (kV _).mono ?_
    rintro e w3 ⟨rfl, b3⟩
    have HB3 : Hid (Below w.heap.size w w3) := HB2.out.trans (b3.mono HB2.out.size)
    go_wp2
    go_ret
    exact ⟨by rw [HO.out]; rfl, HB3.out⟩
  · go_wp2
    go_ret
    exact ⟨by rw [HO.out]; rfl, HB.out⟩
set_option maxHeartbeats 800000 in
set_option maxRecDepth 100000 in
theorem impl_gok (g : Gt) (w : World) :
    Calls Try.prog 26 #[gV g] w fun e w' => e = .returned (.bool (gOk g)) ∧ Below w.heap.size w w' := by
  have HO : Hid (gOk g = (geB g gz || voB (gvo g 1))) := rfl
  generalize gOk g = R at *
  have kG := fun W => impl_gvo g 1 W
  have kV := fun W => impl_vok (gvo g 1) W
  have kF := fun W => impl_free g W
  generalize voB (gvo g 1) = u at *
  generalize gvo g 1 = x at *
  generalize geB g gz = t at *
  obtain ⟨h, r, s, i⟩ := g
  obtain ⟨xh, xr, xs, xi, xv⟩ := x
  unfold tV at kG kV
  unfold gV at *
  simp only at kF kG kV ⊢
  have HX : Hid (Blk (w.alloc (.cells [.int .i64 h, .int .i64 r, .int .i64 s, .string i].toArray 26)) w.heap.size [.int .i64 h, .int .i64 r, .int .i64 s, .string i] 26) := blk_new _ _ _
  have HB : Hid (Below w.heap.size w (w.alloc (.cells [.int .i64 h, .int .i64 r, .int .i64 s, .string i].toArray 26))) := below_one _ _
  go_enter Try.func26, Try.ntmps26
  cases t
  · go_wp2_with fail
    generalize w.alloc (Obj.cells #[.int .i64 h, .int .i64 r, .int .i64 s, .string i] 26) = w1 at *
    refine (kF _).mono ?_
    rintro e w1' ⟨rfl, b1⟩
    have HX1 := HX.out.below b1 HX.out.lt
    have x0 := HX1.cell 0 rfl
    have x1 := HX1.cell 1 rfl
    have x2 := HX1.cell 2 rfl
    have x3 := HX1.cell 3 rfl
    go_wp2_with fail
    replace HB : Hid (Below w.heap.size w w1') := HB.out.trans (b1.mono HB.out.size)
    clear x0 x1 x2 x3 HX1 HX b1
    refine (kG _).mono ?_
    rintro e w2 ⟨rfl, b2⟩
    have HB2 : Hid (Below w.heap.size w w2) := HB.out.trans (b2.mono HB.out.size)
    go_wp2_with fail
    refine (kV _).mono ?_
    rintro e w3 ⟨rfl, b3⟩
    have HB3 : Hid (Below w.heap.size w w3) := HB2.out.trans (b3.mono HB2.out.size)
    go_wp2
    go_ret
    exact ⟨by rw [HO.out]; rfl, HB3.out⟩
  · go_wp2_with fail
    generalize w.alloc (Obj.cells #[.int .i64 h, .int .i64 r, .int .i64 s, .string i] 26) = w1 at *
    refine (kF _).mono ?_
    rintro e w2 ⟨rfl, b2⟩
    have HB2 : Hid (Below w.heap.size w w2) := HB.out.trans (b2.mono HB.out.size)
    go_wp2
    go_ret
    exact ⟨by rw [HO.out]; rfl, HB2.out⟩
end Go.Proofs.Ytmjlpdmdpagggaa
