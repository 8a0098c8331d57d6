/- errors.As with a target of type *impl.refusal: no error, or an error that is a refusal. Conditions: the listed variable of package errors holds what the program's text lays. -/
import Derived.Test.YtajfmjgaaapjeaaGreatDoorIsc
import Derived.LaidEql
import Derived.Stop.Asserts
import Derived.RowKitTokens
namespace Go.Proofs.YtajfmjgaaapjeaaGreatDoor
open Go.RowKit Go.Extern.Stop Go.Stop Go.Extern
set_option linter.unusedVariables false
set_option maxHeartbeats 800000 in
theorem as_no (t : Value) (w : World) : Calls Tryz.prog 76 #[.nilIface, t] w fun e w' => e = .returned (.bool false) ∧ w' = w := by
  go_enter Tryz.func76, Tryz.ntmps76
  go_wp2
  go_ret
  exact ⟨rfl, rfl⟩
theorem q_val (t : Addr) (w : World) : (ReflectliteValue.unpack (.iface 118 (.pointer (some t)))).run Tryz.prog w = .ok (.agg #[.pointer (some ⟨2, 118, none⟩), .pointer (some ⟨w.heap.size, 0, none⟩), .int .u64 150]) (w.alloc (.cells #[.pointer (some t)] 118)) := by kernel_rfl
theorem q_type (a : Addr) (w : World) : (ReflectliteValue.methodAny (ReflectliteValue.valueError "reflectlite.Value.Type" 0) (fun t _ _ _ => ReflectliteType.toType t) #[.agg #[.pointer (some ⟨2, 118, none⟩), .pointer (some a), .int .u64 150]]).run Tryz.prog w = .ok (.iface 163 (.agg #[.pointer (some ⟨2, 118, none⟩)])) w := by kernel_rfl
theorem q_mKind (h : Value) (w : World) : (Go.method 344 163 (.agg #[h]) "Kind").run Tryz.prog w = .ok (181, h) w := by kernel_rfl
theorem q_mElem (h : Value) (w : World) : (Go.method 344 163 (.agg #[h]) "Elem").run Tryz.prog w = .ok (192, .agg #[h]) w := by kernel_rfl
theorem q_mImpl (h : Value) (w : World) : (Go.method 344 163 (.agg #[h]) "Implements").run Tryz.prog w = .ok (193, .agg #[h]) w := by kernel_rfl
theorem q_mAssg (h : Value) (w : World) : (Go.method 344 163 (.agg #[h]) "AssignableTo").run Tryz.prog w = .ok (190, .agg #[h]) w := by kernel_rfl
theorem q_kind (w : World) : ((ReflectliteType.abiMethod fun t => (fun a : Nat => Value.int IntKind.u8 (a : Int)) <$> Rtype.kind t) #[.pointer (some ⟨2, 118, none⟩)]).run Tryz.prog w = .ok (.int .u8 22) w := by kernel_rfl
theorem q_kindE (w : World) : ((ReflectliteType.abiMethod fun t => (fun a : Nat => Value.int IntKind.u8 (a : Int)) <$> Rtype.kind t) #[.pointer (some ⟨2, 114, none⟩)]).run Tryz.prog w = .ok (.int .u8 25) w := by kernel_rfl
theorem q_elemT (w : World) : (ReflectliteType.method ReflectliteType.elem #[.agg #[.pointer (some ⟨2, 118, none⟩)]]).run Tryz.prog w = .ok (.iface 163 (.agg #[.pointer (some ⟨2, 114, none⟩)])) w := by kernel_rfl
theorem q_impl (w : World) : (ReflectliteType.relation "Implements" ReflectliteType.implements_ #[.agg #[.pointer (some ⟨2, 114, none⟩)], .iface 163 (.agg #[.pointer (some ⟨2, 78, none⟩)])]).run Tryz.prog w = .ok (.bool true) w := by kernel_rfl
theorem q_typeOf (v : Value) (w : World) : (ReflectliteType.typeOf #[.iface 114 v]).run Tryz.prog w = .ok (.iface 163 (.agg #[.pointer (some ⟨2, 114, none⟩)])) w := by kernel_rfl
theorem q_assg (w : World) : (ReflectliteType.relation "AssignableTo" ReflectliteType.assignableTo #[.agg #[.pointer (some ⟨2, 114, none⟩)], .iface 163 (.agg #[.pointer (some ⟨2, 114, none⟩)])]).run Tryz.prog w = .ok (.bool true) w := by kernel_rfl
theorem q_valE (c : Int) (w : World) : (ReflectliteValue.unpack (.iface 114 (.agg #[.int .i64 c]))).run Tryz.prog w = .ok (.agg #[.pointer (some ⟨2, 114, none⟩), .pointer (some ⟨w.heap.size, 0, none⟩), .int .u64 153]) (w.alloc (.cells #[.int .i64 c] 114)) := by kernel_rfl
theorem q_parts (a : Addr) (w : World) : (ReflectliteValue.parts (.agg #[.pointer (some ⟨2, 118, none⟩), .pointer (some a), .int .u64 150])).run Tryz.prog w = .ok (some (118, a, 150)) w := by kernel_rfl
theorem q_partsA (a : Addr) (w : World) : (ReflectliteValue.parts (.agg #[.pointer (some ⟨2, 114, none⟩), .pointer (some a), .int .u64 409])).run Tryz.prog w = .ok (some (114, a, 409)) w := by kernel_rfl
theorem q_partsE (a : Addr) (w : World) : (ReflectliteValue.parts (.agg #[.pointer (some ⟨2, 114, none⟩), .pointer (some a), .int .u64 153])).run Tryz.prog w = .ok (some (114, a, 153)) w := by kernel_rfl
theorem q_elemOf (w : World) : (Rtype.elem? 118).run Tryz.prog w = .ok (some 114) w := by kernel_rfl
theorem q_mk (p : Addr) (w : World) : (ReflectliteValue.mk 114 p ReflectliteValue.flagAddr).run Tryz.prog w = .ok (.agg #[.pointer (some ⟨2, 114, none⟩), .pointer (some p), .int .u64 409]) w := by kernel_rfl
theorem q_direct (w : World) : (Rtype.directlyAssignable 114 114).run Tryz.prog w = .ok true w := by kernel_rfl
/-- A program of two readings and a rest, run by its parts. -/
theorem run_two {α β γ : Type} {P : Program} {m : Sem γ} {x : Sem α} {y : Sem β} {K : α → β → Sem γ} (h : m = x >>= fun p => y >>= fun q => K p q) {W : World} {a : α} {b : β} {r : Result γ} (hx : x.run P W = .ok a W) (hy : y.run P W = .ok b W) (hK : (K a b).run P W = r) : m.run P W = r := by
  rw [h, Sem.run_bind, hx]
  simp only [Result.andThen]
  rw [Sem.run_bind, hy]
  exact hK
theorem run_one {α γ : Type} {P : Program} {m : Sem γ} {x : Sem α} {K : α → Sem γ} (h : m = x >>= fun p => K p) {W : World} {a : α} {r : Result γ} (hx : x.run P W = .ok a W) (hK : (K a).run P W = r) : m.run P W = r := by
  rw [h, Sem.run_bind, hx]
  exact hK
theorem q_isNil (a p : Addr) (W : World) (ha : W.cell? a = some (.pointer (some p))) :
    (ReflectliteValue.method (ReflectliteValue.valueError "reflectlite.Value.IsNil" 0) ReflectliteValue.isNil #[.agg #[.pointer (some ⟨2, 118, none⟩), .pointer (some a), .int .u64 150]]).run Tryz.prog W = .ok (.bool false) W := by
  refine run_one rfl (q_parts a W) ?_
  simp [ReflectliteValue.isNil, loadVar, ha, Result.andThen]
theorem q_elemV (a p : Addr) (W : World) (ha : W.cell? a = some (.pointer (some p))) :
    (ReflectliteValue.method (ReflectliteValue.valueError "reflectlite.Value.Elem" 0) ReflectliteValue.elem #[.agg #[.pointer (some ⟨2, 118, none⟩), .pointer (some a), .int .u64 150]]).run Tryz.prog W = .ok (.agg #[.pointer (some ⟨2, 114, none⟩), .pointer (some p), .int .u64 409]) W := by
  refine run_one rfl (q_parts a W) ?_
  simp [ReflectliteValue.elem, loadVar, ha, Result.andThen, q_elemOf, q_mk]
theorem q_set (b g : Nat) (c : Int) (old : Value) (W : World) (hb : W.cell? ⟨b, 0, none⟩ = some (.int .i64 c)) (ht : W.cell? ⟨g, 0, none⟩ = some old) (hf : W.frozen? ⟨g, 0, none⟩ = false) :
    (ReflectliteValue.set #[.agg #[.pointer (some ⟨2, 114, none⟩), .pointer (some ⟨g, 0, none⟩), .int .u64 409], .agg #[.pointer (some ⟨2, 114, none⟩), .pointer (some ⟨b, 0, none⟩), .int .u64 153]]).run Tryz.prog W = .ok (.tuple #[]) (W.setCell ⟨g, 0, none⟩ (.int .i64 c)) := by
  refine run_two rfl (q_partsA _ W) (q_partsE _ W) ?_
  simp [ReflectliteValue.flagAddr, loadVar, loadCells, loadCellsFrom, hb, Result.andThen, q_direct, storeVar, Value.cells, storeCells, Addr.add]
  rw [run_store Tryz.prog W ⟨g, 0, none⟩ _ _ (by rfl)]
  simp [ht, hf]
/-- What errors.As asks of its target, laid twice, and the refusal that it hands on. -/
def asW (w : World) (g : Nat) (c : Int) : World := (((w.alloc (.cells #[.pointer (some ⟨g, 0, none⟩)] 118)).alloc (.cells #[.pointer (some ⟨2, 118, none⟩), .pointer (some ⟨w.heap.size, 0, none⟩), .int .u64 150] 136)).alloc (.cells #[.pointer (some ⟨2, 118, none⟩), .pointer (some ⟨w.heap.size, 0, none⟩), .int .u64 150] 136)).alloc (.cells #[.int .i64 c] 114)
set_option maxHeartbeats 4000000 in
theorem as_yes (c : Int) (g : Nat) (old : Value) (w : World) (hg : w.cell? ⟨0, 0, none⟩ = some (.iface 163 (.agg #[.pointer (some ⟨2, 78, none⟩)]))) (ht : w.cell? ⟨g, 0, none⟩ = some old) (hf : w.frozen? ⟨g, 0, none⟩ = false) :
    Calls Tryz.prog 76 #[.iface 114 (.agg #[.int .i64 c]), .iface 118 (.pointer (some ⟨g, 0, none⟩))] w fun e w' => e = .returned (.bool true) ∧ w' = (asW w g c).setCell ⟨g, 0, none⟩ (.int .i64 c) := by
  unfold asW
  have x1 := @run_callFunc_extern Tryz.prog 101 _ (fun args => ReflectliteValue.unpack (args.getD 0 (.tuple #[]))) Tryz.func101 (by kernel_rfl) (by kernel_rfl) (by kernel_rfl) (by kernel_rfl)
  have x2 := @run_callFunc_extern Tryz.prog 102 _ (ReflectliteValue.methodAny (ReflectliteValue.valueError "reflectlite.Value.Type" 0) (fun t _ _ _ => ReflectliteType.toType t)) Tryz.func102 (by kernel_rfl) (by kernel_rfl) (by kernel_rfl) (by kernel_rfl)
  have x3 := @run_callFunc_extern Tryz.prog 103 _ (ReflectliteValue.method (ReflectliteValue.valueError "reflectlite.Value.IsNil" 0) ReflectliteValue.isNil) Tryz.func103 (by kernel_rfl) (by kernel_rfl) (by kernel_rfl) (by kernel_rfl)
  have x4 := @run_callFunc_extern Tryz.prog 181 _ (ReflectliteType.abiMethod fun t => do pure (.int .u8 (← Rtype.kind t))) Tryz.func181 (by kernel_rfl) (by kernel_rfl) (by kernel_rfl) (by kernel_rfl)
  have x5 := @run_callFunc_extern Tryz.prog 192 _ (ReflectliteType.method ReflectliteType.elem) Tryz.func192 (by kernel_rfl) (by kernel_rfl) (by kernel_rfl) (by kernel_rfl)
  have x6 := @run_callFunc_extern Tryz.prog 193 _ (ReflectliteType.relation "Implements" ReflectliteType.implements_) Tryz.func193 (by kernel_rfl) (by kernel_rfl) (by kernel_rfl) (by kernel_rfl)
  have x7 := @run_callFunc_extern Tryz.prog 120 _ ReflectliteType.typeOf Tryz.func120 (by kernel_rfl) (by kernel_rfl) (by kernel_rfl) (by kernel_rfl)
  have x8 := @run_callFunc_extern Tryz.prog 190 _ (ReflectliteType.relation "AssignableTo" ReflectliteType.assignableTo) Tryz.func190 (by kernel_rfl) (by kernel_rfl) (by kernel_rfl) (by kernel_rfl)
  have x9 := @run_callFunc_extern Tryz.prog 121 _ (ReflectliteValue.method (ReflectliteValue.valueError "reflectlite.Value.Elem" 0) ReflectliteValue.elem) Tryz.func121 (by kernel_rfl) (by kernel_rfl) (by kernel_rfl) (by kernel_rfl)
  have x10 := @run_callFunc_extern Tryz.prog 122 _ ReflectliteValue.set Tryz.func122 (by kernel_rfl) (by kernel_rfl) (by kernel_rfl) (by kernel_rfl)
  have y1 := q_val
  have y2 := q_type
  have y3 := q_mKind
  have y4 := q_mElem
  have y5 := q_mImpl
  have y6 := q_mAssg
  have y7 := q_kind
  have y8 := q_kindE
  have y9 := q_elemT
  have y10 := q_impl
  have y11 := q_typeOf
  have y12 := q_assg
  have y13 := q_valE
  have hl0 : 0 < w.heap.size := World.block_lt_of_cell? w _ hg
  have hlg : g < w.heap.size := World.block_lt_of_cell? w _ ht
  have z1 := q_isNil ⟨w.heap.size, 0, none⟩ ⟨g, 0, none⟩ ((w.alloc (.cells #[.pointer (some ⟨g, 0, none⟩)] 118)).alloc (.cells #[.pointer (some ⟨2, 118, none⟩), .pointer (some ⟨w.heap.size, 0, none⟩), .int .u64 150] 136)) (by simp)
  have z2 : ((w.alloc (.cells #[.pointer (some ⟨g, 0, none⟩)] 118)).alloc (.cells #[.pointer (some ⟨2, 118, none⟩), .pointer (some ⟨w.heap.size, 0, none⟩), .int .u64 150] 136)).cell? ⟨0, 0, none⟩ = some (.iface 163 (.agg #[.pointer (some ⟨2, 78, none⟩)])) := by
    rw [World.cell?_alloc_lt _ _ ⟨0, 0, none⟩ (by simp), World.cell?_alloc_lt _ _ ⟨0, 0, none⟩ hl0]; exact hg
  have z3 := q_elemV ⟨w.heap.size, 0, none⟩ ⟨g, 0, none⟩ (((w.alloc (.cells #[.pointer (some ⟨g, 0, none⟩)] 118)).alloc (.cells #[.pointer (some ⟨2, 118, none⟩), .pointer (some ⟨w.heap.size, 0, none⟩), .int .u64 150] 136)).alloc (.cells #[.pointer (some ⟨2, 118, none⟩), .pointer (some ⟨w.heap.size, 0, none⟩), .int .u64 150] 136)) (by rw [World.cell?_alloc_lt _ _ ⟨w.heap.size, 0, none⟩ (by simp; omega)]; simp)
  have z4 := q_set (w.heap.size + 1 + 1 + 1) g c old ((((w.alloc (.cells #[.pointer (some ⟨g, 0, none⟩)] 118)).alloc (.cells #[.pointer (some ⟨2, 118, none⟩), .pointer (some ⟨w.heap.size, 0, none⟩), .int .u64 150] 136)).alloc (.cells #[.pointer (some ⟨2, 118, none⟩), .pointer (some ⟨w.heap.size, 0, none⟩), .int .u64 150] 136)).alloc (.cells #[.int .i64 c] 114))
    (by rw [World.cell?_alloc_at _ _ _ _ (by simp)]; rfl)
    (by rw [World.cell?_alloc_lt _ _ ⟨g, 0, none⟩ (by simp; omega), World.cell?_alloc_lt _ _ ⟨g, 0, none⟩ (by simp; omega), World.cell?_alloc_lt _ _ ⟨g, 0, none⟩ (by simp; omega), World.cell?_alloc_lt _ _ ⟨g, 0, none⟩ hlg]; exact ht)
    (by rw [World.frozen?_alloc_old _ _ ⟨g, 0, none⟩ (by simp; omega), World.frozen?_alloc_old _ _ ⟨g, 0, none⟩ (by simp; omega), World.frozen?_alloc_old _ _ ⟨g, 0, none⟩ (by simp; omega), World.frozen?_alloc_old _ _ ⟨g, 0, none⟩ (Nat.ne_of_lt hlg)]; exact hf)
  go_enter Tryz.func76, Tryz.ntmps76
  go_wp2
  refine wp_loop_rounds 1 ?_
  rw [rounds_succ]
  go_wp2
  go_ret
  exact ⟨rfl, rfl⟩
theorem below_set_new {w : World} {g : Nat} (v : Value) (W : World) (h : Below g w W) : Below g w (W.setCell ⟨g, 0, none⟩ v) := h.setCell (Nat.le_refl g) v
theorem asW_below (w : World) (g : Nat) (c : Int) : Below w.heap.size w (asW w g c) := by
  unfold asW
  exact ((((Below.refl _ _).alloc (Nat.le_refl _) _).alloc (by simp) _).alloc (by simp; omega) _).alloc (by simp; omega) _
/-- What codeOf answers: nothing, or a refusal's own code. -/
def errV : Int → Value := fun c => if c = 0 then .nilIface else .iface 114 (.agg #[.int .i64 c])
set_option maxHeartbeats 800000 in
theorem code_of (c : Int) (w : World) (hT : Tab w) :
    Calls Tryz.prog 40 #[errV c] w fun e w' => e = .returned (.int .i64 c) ∧ Below w.heap.size w w' := by
  unfold errV
  have h1 : (w.alloc (.cells #[.int .i64 0] 114)).cell? ⟨w.heap.size, 0, none⟩ = some (.int .i64 0) := by simp
  have h2 : (w.alloc (.cells #[.int .i64 0] 114)).frozen? ⟨w.heap.size, 0, none⟩ = false := by simp
  have hb : Below w.heap.size w (w.alloc (.cells #[.int .i64 0] 114)) := (Below.refl _ _).alloc (Nat.le_refl _) _
  have h3 := (hT.below hb hT.pos).2
  have hs : w.heap.size < (w.alloc (.cells #[.int .i64 0] 114)).heap.size := by simp
  have hA := asW_below (w.alloc (.cells #[.int .i64 0] 114)) w.heap.size c
  have kN := fun W => as_no (.iface 118 (.pointer (some ⟨w.heap.size, 0, none⟩))) W
  have kY := as_yes c w.heap.size (.int .i64 0) (w.alloc (.cells #[.int .i64 0] 114)) h3 h1 h2
  have kC : ((asW (w.alloc (.cells #[.int .i64 0] 114)) w.heap.size c).setCell ⟨w.heap.size, 0, none⟩ (.int .i64 c)).cell? ⟨w.heap.size, 0, none⟩ = some (.int .i64 c) := World.cell?_setCell_same' _ _ _ (by rw [hA.cell (p := ⟨w.heap.size, 0, none⟩) hs, h1]; rfl)
  have kB : Below w.heap.size w ((asW (w.alloc (.cells #[.int .i64 0] 114)) w.heap.size c).setCell ⟨w.heap.size, 0, none⟩ (.int .i64 c)) := (hb.trans (hA.mono (by simp))).setCell (Nat.le_refl _) _
  by_cases h0 : c = 0
  · rw [if_pos h0]
    subst h0
    clear kY kC kB hA
    go_enter Tryz.func40, Tryz.ntmps40
    go_wp2_with fail
    refine (kN _).mono ?_
    rintro e w1 ⟨rfl, rfl⟩
    go_wp2
    go_ret
    exact ⟨rfl, hb⟩
  · rw [if_neg h0]
    clear kN hA h1 h2 h3
    generalize (asW (w.alloc (.cells #[.int .i64 0] 114)) w.heap.size c).setCell ⟨w.heap.size, 0, none⟩ (.int .i64 c) = w2 at *
    go_enter Tryz.func40, Tryz.ntmps40
    go_wp2_with fail
    refine kY.mono ?_
    rintro e w1 ⟨rfl, rfl⟩
    go_wp2
    go_ret
    exact ⟨rfl, kB⟩
end Go.Proofs.YtajfmjgaaapjeaaGreatDoor
