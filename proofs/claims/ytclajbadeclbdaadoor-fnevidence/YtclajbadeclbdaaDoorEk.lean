/- Places as keys of a map: what a key reads as, and a map that tells where in a row each place stands. Conditions: votes that are right. -/
import Derived.Test.YtclajbadeclbdaaDoorFg
import Derived.Maps.OwnSet
import Derived.DeepKeys4
namespace Go.Proofs.YtclajbadeclbdaaDoor
open Go.RowKit Go.Maps
open Num
set_option linter.unusedVariables false
set_option maxRecDepth 100000 in
theorem laidOutP : laidOutB Tryd.prog = true := by kernel_rfl
set_option maxRecDepth 100000 in
theorem rowP : (71 : TypeId) < Tryd.prog.types.size := of_decide_eq_true (by kernel_rfl)
set_option maxRecDepth 100000 in
theorem wideP : (match Tryd.prog.underlying 71 with | some (.array _ _) | some (.struct _) => true | _ => false) = true := by kernel_rfl
set_option maxRecDepth 100000 in
theorem keyAtP : Tryd.prog.keyTypeAt (3 + 1) 71 = true := by kernel_rfl
set_option maxRecDepth 100000 in
theorem lawP : Keyed Tryd.prog 71 := Keyed.of_law (deep_law_laid laidOutP (m := 3 + 1) (by omega) rowP keyAtP wideP)
def pk (x : Vt) : Lit := .string (keyBytes [.int .i64 x.h, .int .i64 x.r, .int .i64 x.s, .int .i64 x.v])
theorem cellsP : Tryd.prog.cellsOf 71 = 4 := by kernel_rfl
theorem cellsI : Tryd.prog.cellsOf 3 = 1 := by kernel_rfl
theorem keyP : Tryd.prog.keyType 71 = true := by kernel_rfl
theorem sizeP : ∃ m, Tryd.prog.types.size = m + 1 := ⟨Tryd.prog.types.size - 1, by have : 0 < Tryd.prog.types.size := of_decide_eq_true (by kernel_rfl); omega⟩
set_option maxRecDepth 100000 in
theorem keyOf_place {x : Vt} (hx : voB x = true) : keyOf Tryd.prog 71 (pV x) = some (pk x) := by
  obtain ⟨b1, b2, b3, _, b5⟩ := (voB_iff x).1 hx
  have h1 : (Lit.int .i64 x.h).wf = true := WalkArith.wf_i64 (by omega)
  have h2 : (Lit.int .i64 x.r).wf = true := WalkArith.wf_i64 (by omega)
  have h3 : (Lit.int .i64 x.s).wf = true := WalkArith.wf_i64 (by omega)
  have h4 : (Lit.int .i64 x.v).wf = true := WalkArith.wf_i64 (by omega)
  obtain ⟨m, hm⟩ := sizeP
  unfold keyOf pV
  rw [Tryd.underlying71]
  simp only [keyP, Value.formed, Tryd.underlying71, cellsP]
  rw [hm]
  simp [Program.keyLits, Tryd.underlying71, Tryd.underlying3, cellsP, cellsI, h1, h2, h3, h4, Value.cells, pk]
theorem pk_plc {x y : Vt} (h : plc x y = true) : pk x = pk y := by
  obtain ⟨h1, h2, h3, h4⟩ := plc_iff.1 h
  unfold pk; rw [h1, h2, h3, h4]
theorem plc_pk {x y : Vt} (hx : voB x = true) (hy : voB y = true) (h : pk x = pk y) : plc x y = true := by
  have h1 := keyOf_place hx
  rw [h] at h1
  have h2 := lawP.inj h1 (keyOf_place hy)
  unfold pV at h2
  simp only [Value.agg.injEq, Array.mk.injEq, List.cons.injEq, Value.int.injEq, true_and, and_true] at h2
  exact plc_iff.2 h2
theorem pk_key (x : Vt) : WideAt.IsKeyLit (pk x) := trivial
theorem sg_vo {y : Sv} (h : sgB y = true) : voB y.x = true := by
  unfold sgB at h
  cases hv : voB y.x with
  | false => rw [sd_no hv] at h; cases h
  | true => rfl
/-- A map tells where in F each place stands. -/
def MP (D : DataW Unit) (F : List Ent) : Prop := (∀ j (hj : j < F.length) z, D.atKey (pk F[j].1.x) z = .lit (.int .i64 (j : Int))) ∧ ∀ x, voB x = true → has D (pk x) = inF F x
theorem MP.start : MP (.map []) [] := ⟨fun j hj => absurd hj (Nat.not_lt_zero _), fun x _ => rfl⟩
theorem MP.new {D : DataW Unit} {F : List Ent} (h : MP D F) (hG : GF F) (hD : IsMap D) {s : Sv} (hs : sgB s = true) (hi : inF F s.x = false) : MP (D.put (pk s.x) (.lit (.int .i64 (F.length : Int)))) (F ++ [(s, none)]) := by
  have hvs := sg_vo hs
  refine ⟨fun j hj z => ?_, fun x hx => ?_⟩
  · rcases Nat.lt_or_ge j F.length with hlt | hge
    · rw [List.getElem_append_left hlt]
      have hne : pk F[j].1.x ≠ pk s.x := fun e => by
        have h1 := plc_pk (sg_vo (hG.1 _ (List.getElem_mem hlt))) hvs e
        have : inF F s.x = true := List.any_eq_true.2 ⟨_, List.getElem_mem hlt, h1⟩
        rw [hi] at this; cases this
      rw [atKey_put_other hne]
      exact h.1 j hlt z
    · have hl : (F ++ [(s, (none : Option Sv))]).length = F.length + 1 := by simp
      obtain rfl : j = F.length := by omega
      have e : (F ++ [(s, (none : Option Sv))])[F.length] = (s, none) := by simp
      rw [e]
      exact atKey_put_same hD (pk_key _) _ _
  · rw [inF_snoc]
    cases hp : plc s.x x with
    | true => rw [← pk_plc hp, has_put_same hD (pk_key _), Bool.or_true]
    | false =>
      have hne : pk x ≠ pk s.x := fun e => by rw [plc_comm, plc_pk hx hvs e] at hp; cases hp
      rw [has_put_other hne, h.2 x hx, Bool.or_false]
theorem MP.same {D : DataW Unit} {F F' : List Ent} (h : MP D F) (hl : F'.length = F.length) (hf : ∀ j (hj : j < F'.length) (hj' : j < F.length), F'[j].1 = F[j].1) (hi : ∀ x, inF F' x = inF F x) : MP D F' :=
  ⟨fun j hj z => by rw [hf j hj (by omega)]; exact h.1 j (by omega) z, fun x hx => by rw [hi]; exact h.2 x hx⟩
theorem MP.at {D : DataW Unit} {F : List Ent} (h : MP D F) {x : Vt} (hi : inF F x = true) (z : DataW Unit) : ∃ j, ∃ hj : j < F.length, plc F[j].1.x x = true ∧ D.atKey (pk x) z = .lit (.int .i64 (j : Int)) := by
  obtain ⟨j, hj, hp⟩ := inF_at hi
  exact ⟨j, hj, hp, by rw [← pk_plc hp]; exact h.1 j hj z⟩
theorem MP.upd {D : DataW Unit} {F : List Ent} (h : MP D F) (s : Sv) : MP D (F.map (upd s)) :=
  h.same (by simp) (fun j hj hj' => by rw [List.getElem_map, upd_fst]) (fun x => inF_map s F x)
end Go.Proofs.YtclajbadeclbdaaDoor
