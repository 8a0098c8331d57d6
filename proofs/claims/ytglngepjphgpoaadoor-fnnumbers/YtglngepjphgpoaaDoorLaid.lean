/- From what the rows list of the library's variables to what the walks ask: the table of powers of ten, and that the two sentinels hold an error each. -/
import Derived.Test.YtglngepjphgpoaaDoorDec
import Derived.Stop.LaidErr
import Derived.WalkSmall
import Derived.LaidMore
import Derived.Lib.LaidTab
namespace Go.Proofs.YtglngepjphgpoaaDoor
open Go.RowKit
open Num
theorem gES : Tryd.prog.globalNamed "strconv.ErrSyntax" = some 0 := by kernel_rfl
theorem gER : Tryd.prog.globalNamed "strconv.ErrRange" = some 1 := by kernel_rfl
theorem gTab : Tryd.prog.globalNamed "internal/strconv.uint64pow10" = some 2 := by kernel_rfl
theorem gESType : (Tryd.prog.globals[0]?).map (·.type) = some 44 := by kernel_rfl
theorem gERType : (Tryd.prog.globals[1]?).map (·.type) = some 44 := by kernel_rfl
theorem gTabType : (Tryd.prog.globals[2]?).map (·.type) = some 83 := by kernel_rfl
theorem cells80 : Tryd.prog.cellsOf 80 = 1 := by kernel_rfl
theorem cells9 : Tryd.prog.cellsOf 9 = 1 := by kernel_rfl
theorem cells65 : Tryd.prog.cellsOf 65 = 1 := by kernel_rfl
theorem cells83 : Tryd.prog.cellsOf 83 = 20 := by kernel_rfl
theorem star : "*" ++ "errors.errorString" = "*errors.errorString" := by decide
theorem row78 (u : TypeId) (h : Tryd.prog.typeName? 3 u = some "*errors.errorString") : u = 78 :=
  typeName_ptr_named (nm := "errors.errorString") (by rw [star]; kernel_rfl) (by kernel_rfl) (by decide) u (by rw [star]; exact h)
/-- A sentinel holds an error. -/
def Err (n : String) (w : World) : Prop := ∃ tp p, w.var? Tryd.prog n = some #[.iface tp p]
theorem tab_of {W : World} {r : List (String × DataW Unit)} (h : laidMet Tryd.prog (("internal/strconv.uint64pow10", Rows.laid_internal_strconv_uint64pow10) :: r) W) : Tab W :=
  Lib.tabIs_of_head (zs := Lib.pow10Tab) gTab gTabType Tryd.underlying83 Tryd.underlying65 cells65 cells83 h
theorem laid3 {W : World} (h : laidMetH Tryd.prog Rows.fnExactDecRow.laid W) : Tab W := by
  rw [MakeChecks.laidMetH_plain _ _ _ (by kernel_rfl)] at h
  exact tab_of (laidMet.tail (laidMet.tail h))
theorem laid5 {W : World} (h : laidMetH Tryd.prog Rows.fnExactReadDecRow.laid W) : Tab W ∧ Err "strconv.ErrSyntax" W ∧ Err "strconv.ErrRange" W := by
  rw [MakeChecks.laidMetH_plain _ _ _ (by kernel_rfl)] at h
  have h3 := laidMet.tail (laidMet.tail h)
  have h2 := laidMet.tail h3
  have h1 := laidMet.tail h2
  obtain ⟨a0, s0, hv0, _, _, _⟩ := laid_sentinel h2 gER gERType Tryd.underlying44 row78 Tryd.underlying78 Tryd.underlying80 rfl rfl Tryd.underlying9 cells80 cells9
  obtain ⟨a1, s1, hv1, _, _, _⟩ := laid_sentinel h1 gES gESType Tryd.underlying44 row78 Tryd.underlying78 Tryd.underlying80 rfl rfl Tryd.underlying9 cells80 cells9
  exact ⟨tab_of h3, ⟨_, _, hv1⟩, ⟨_, _, hv0⟩⟩
theorem size_of_var {w : World} {n : String} {g : Nat} {cs : Array Value} (hg : Tryd.prog.globalNamed n = some g) (h : w.var? Tryd.prog n = some cs) : g < w.heap.size := by
  unfold World.var? at h
  simp only [hg, Option.bind_some] at h
  rcases Nat.lt_or_ge g w.heap.size with h' | h'
  · exact h'
  · simp [Array.getElem?_eq_none h'] at h
theorem var_below {w w' : World} {n : String} {g : Nat} {cs : Array Value} (hg : Tryd.prog.globalNamed n = some g) (h : w.var? Tryd.prog n = some cs) (hb : Below w.heap.size w w') : w'.var? Tryd.prog n = some cs :=
  var?_below hb hg (size_of_var hg h) h
theorem tab_below {w w' : World} (h : Tab w) (hb : Below w.heap.size w w') : Tab w' := var_below gTab h hb
theorem es_below {w w' : World} (h : Err "strconv.ErrSyntax" w) (hb : Below w.heap.size w w') : Err "strconv.ErrSyntax" w' := by
  obtain ⟨tp, p, h⟩ := h; exact ⟨tp, p, var_below gES h hb⟩
theorem er_below {w w' : World} (h : Err "strconv.ErrRange" w) (hb : Below w.heap.size w w') : Err "strconv.ErrRange" w' := by
  obtain ⟨tp, p, h⟩ := h; exact ⟨tp, p, var_below gER h hb⟩
#print axioms laid5
end Go.Proofs.YtglngepjphgpoaaDoor
