/- What slices.IndexFunc and slices.DeleteFunc answer at what is kept of places, by isOpen. Conditions: a row that the call owns. -/
import Derived.Test.YtclajbadeclbdaaDoorYr
import Derived.Laws.IdiomCopy
namespace Go.Proofs.YtclajbadeclbdaaDoor
open Go.RowKit
open Num
set_option linter.unusedVariables false
theorem stored_all {w0 : World} {B n g cap : Nat} : ∀ (vs : List Value) (o : Nat) (w : World) (xs : List Value), w.ownsRow B 34 12 (.slice (some ⟨g, 0, none⟩) n cap) n xs →
    ∃ ys, (w.setCells g o vs).ownsRow B 34 12 (.slice (some ⟨g, 0, none⟩) n cap) n ys ∧ ys.take o = xs.take o ∧ w.grownBy (w.setCells g o vs) (some g)
  | [], o, w, xs, h => ⟨xs, h, rfl, ⟨rfl, rfl, rfl, Nat.le_refl _, fun _ _ _ => rfl⟩⟩
  | v :: r, o, w, xs, h => by
    obtain ⟨h1, g1⟩ := h.stored o v
    obtain ⟨ys, h2, e2, g2⟩ := stored_all (w0 := w0) r (o + 1) _ _ h1
    refine ⟨ys, h2, ?_, ⟨g2.os.trans g1.os, g2.tape.trans g1.tape, g2.output.trans g1.output, Nat.le_trans g1.size g2.size, fun k hk hne => (g2.block k (Nat.lt_of_lt_of_le hk g1.size) hne).trans (g1.block k hk hne)⟩⟩
    have e3 := congrArg (List.take o) e2
    rw [List.take_take, List.take_take, Nat.min_eq_left (by omega)] at e3
    rw [e3, List.take_set_of_le (Nat.le_refl _)]
theorem own_cut {w : World} {B g cap : Nat} {F : List Ent} {ys : List Value} (i : Nat) (hi : i ≤ F.length) (h : w.ownsRow B 34 12 (.slice (some ⟨g, 0, none⟩) F.length cap) F.length ys) (he : ys.take (i * 12) = (ecs F).take (i * 12)) :
    OwnE w B (.slice (some ⟨g, 0, none⟩) i cap) (F.take i) := by
  have hl : (ecs (F.take i)).length = i * 12 := by unfold ecs; rw [flat_len entL 12 (fun _ => rfl), List.length_take, Nat.min_eq_left hi]
  have e : (ecs F).take (i * 12) = ecs (F.take i) := by
    have e1 : ecs F = ecs (F.take i) ++ ecs (F.drop i) := by unfold ecs; rw [← List.flatMap_append, List.take_append_drop]
    rw [e1, ← hl, List.take_left]
  have hle : (F.take i).length = i := by rw [List.length_take, Nat.min_eq_left hi]
  unfold OwnE
  rw [hle]
  refine ⟨hl, ?_⟩
  rcases h.2 with ⟨h', _⟩ | ⟨g', cap', cur, h', hB, hg, hnc, hcm, hcs, htake⟩
  · simp at h'
  · simp only [Value.slice.injEq, Option.some.injEq, Addr.mk.injEq, and_true, true_and] at h'
    obtain ⟨rfl, rfl⟩ := h'
    refine .inr ⟨g, cap, cur, rfl, hB, hg, by omega, hcm, hcs, ?_⟩
    rw [← e, ← he, ← htake, List.take_take, Nat.min_eq_left (by omega)]
theorem zeroE : (∀ w, (zeroValue 34).run Tryd.prog w = .ok (.agg #[.int .i64 0, .int .i64 0, .int .i64 0, .string ⟨#[]⟩, .int .i64 0, .string ⟨#[]⟩, .int .i64 0, .int .i64 0, .int .i64 0, .string ⟨#[]⟩, .int .i64 0, .string ⟨#[]⟩]) w) ∧ (Tryd.prog.info? 34).map (·.size) = some 12 := zero_of_info (by kernel_rfl)
theorem run_clearE {w : World} {B g cap : Nat} {F : List Ent} (h : OwnE w B (.slice (some ⟨g, 0, none⟩) F.length cap) F) (i : Nat) (hi : i ≤ F.length) (ty : TypeId) :
    ∃ w', (Builtin.clear_ #[61] ty #[.slice (some ⟨g, i * 12, none⟩) (F.length - i) (cap - i)]).run Tryd.prog w = .ok (.tuple #[]) w' ∧ OwnE w' B (.slice (some ⟨g, 0, none⟩) i cap) (F.take i) ∧ w.grownBy w' (some g) := by
  have h0 : w.ownsRow B 34 12 (.slice (some ⟨g, 0, none⟩) F.length cap) F.length (ecs F) := h
  rcases Nat.eq_zero_or_pos (F.length - i) with hz | hp
  · refine ⟨w, ?_, own_cut i hi h0 rfl, ⟨rfl, rfl, rfl, Nat.le_refl _, fun _ _ _ => rfl⟩⟩
    rw [hz]
    simp [Builtin.clear_, run_underlying Tryd.underlying61]
  · obtain ⟨m, hm⟩ : ∃ m, F.length - i = m + 1 := ⟨F.length - i - 1, by omega⟩
    obtain ⟨vs, hvs⟩ : ∃ vs, (Builtin.zeroCells #[.int .i64 0, .int .i64 0, .int .i64 0, .string ⟨#[]⟩, .int .i64 0, .string ⟨#[]⟩, .int .i64 0, .int .i64 0, .int .i64 0, .string ⟨#[]⟩, .int .i64 0, .string ⟨#[]⟩] (m + 1)).toList = vs := ⟨_, rfl⟩
    have hlen : vs.length = (m + 1) * 12 := by rw [← hvs, Array.length_toList, size_zeroCells]; rfl
    have hone : ∀ v ∈ vs, v.oneCell' = true := by
      intro v hv
      rw [← hvs] at hv
      unfold Builtin.zeroCells at hv
      rw [Array.toList_map, List.mem_map] at hv
      obtain ⟨j, _, rfl⟩ := hv
      have hj : j % 12 < 12 := Nat.mod_lt _ (by omega)
      simp only [List.size_toArray, List.length_cons, List.length_nil]
      generalize j % (0 + 1 + 1 + 1 + 1 + 1 + 1 + 1 + 1 + 1 + 1 + 1 + 1) = q at *
      match q, hj with
      | 0, _ | 1, _ | 2, _ | 3, _ | 4, _ | 5, _ | 6, _ | 7, _ | 8, _ | 9, _ | 10, _ | 11, _ => rfl
    have hst := run_storeCells_cells (P := Tryd.prog) g (i * 12) vs 0 w (fun j hj => by
        have hk : i * 12 + 0 + j < F.length * 12 := by omega
        rw [h0.cellAt _ hk, List.getElem?_eq_getElem (by rw [h0.1]; exact hk)]; rfl) (fun j _ => h0.frozenAt _) hone
    simp only [Nat.add_zero] at hst
    obtain ⟨ys, h2, e2, g2⟩ := stored_all (w0 := w) vs (i * 12) w _ h0
    refine ⟨_, ?_, own_cut i hi h2 e2, g2⟩
    rw [hm]
    simp [Builtin.clear_, run_underlying Tryd.underlying61, zeroE.1, Value.cells, hvs, hst]
theorem own_hold {w w' : World} {B e s n : Nat} {v : Value} {xs : List Value} (h : w.ownsRow B e s v n xs) (hb : Below w.heap.size w w') : w'.ownsRow B e s v n xs := h.kept (row := none) (grown_of hb) (by cases v.ownBlock <;> simp)
/-- What is kept of places, in cells where a slice says, if any. -/
def EO (w : World) (a : Option Addr) (F : List Ent) : Prop := F.length = 0 ∨ ∃ g, a = some ⟨g, 0, none⟩ ∧ g < w.heap.size ∧ ∀ j (hj : j < F.length) c, c < 12 → w.cell? ⟨g, j * 12 + c, none⟩ = (entL F[j])[c]?
theorem EO.below {w w' : World} {a : Option Addr} {F : List Ent} (h : EO w a F) (hb : Below w.heap.size w w') : EO w' a F := by
  rcases h with h | ⟨g, h1, h2, h3⟩
  · exact .inl h
  · exact .inr ⟨g, h1, Nat.lt_of_lt_of_le h2 hb.size, fun j hj c hc => (hb.cell (p := ⟨g, j * 12 + c, none⟩) h2).trans (h3 j hj c hc)⟩
theorem OwnE.o {w : World} {B : Nat} {v : Value} {F : List Ent} (h : OwnE w B v F) : ∃ a cap, v = .slice a F.length cap ∧ EO w a F ∧ F.length ≤ cap ∧ cap ≤ 9223372036854775807 := by
  rcases h.form with ⟨rfl, rfl⟩ | ⟨g, cap, rfl, hB, hg, hnc, hcm⟩
  · exact ⟨none, 0, rfl, .inl rfl, by simp, by omega⟩
  · exact ⟨some ⟨g, 0, none⟩, cap, rfl, .inr ⟨g, rfl, hg, fun j hj c hc => h.at j hj c hc⟩, hnc, hcm⟩
theorem twelve {w : World} {g k : Nat} {e : Ent} {a b : Sv} (he : entL e = eLs a b) (h : ∀ c, c < 12 → w.cell? ⟨g, k * 12 + c, none⟩ = (entL e)[c]?) :
    w.cell? ⟨g, k * 12, none⟩ = some (.int .i64 a.x.h) ∧ w.cell? ⟨g, k * 12 + 1, none⟩ = some (.int .i64 a.x.r) ∧ w.cell? ⟨g, k * 12 + 2, none⟩ = some (.int .i64 a.x.s) ∧ w.cell? ⟨g, k * 12 + 3, none⟩ = some (.string a.x.i) ∧ w.cell? ⟨g, k * 12 + 4, none⟩ = some (.int .i64 a.x.v) ∧ w.cell? ⟨g, k * 12 + 5, none⟩ = some (.string a.s) ∧
    w.cell? ⟨g, k * 12 + 6, none⟩ = some (.int .i64 b.x.h) ∧ w.cell? ⟨g, k * 12 + 7, none⟩ = some (.int .i64 b.x.r) ∧ w.cell? ⟨g, k * 12 + 8, none⟩ = some (.int .i64 b.x.s) ∧ w.cell? ⟨g, k * 12 + 9, none⟩ = some (.string b.x.i) ∧ w.cell? ⟨g, k * 12 + 10, none⟩ = some (.int .i64 b.x.v) ∧ w.cell? ⟨g, k * 12 + 11, none⟩ = some (.string b.s) := by
  rw [he] at h
  exact ⟨h 0 (by omega), h 1 (by omega), h 2 (by omega), h 3 (by omega), h 4 (by omega), h 5 (by omega), h 6 (by omega), h 7 (by omega), h 8 (by omega), h 9 (by omega), h 10 (by omega), h 11 (by omega)⟩
/-- The place of the first one that has no second vote. -/
def IX (F : List Ent) (r : Int) : Prop := (r = -1 ∧ full F = F) ∨ ∃ k : Nat, r = (k : Int) ∧ ∃ hk : k < F.length, F[k].2 = none ∧ full (F.take k) = F.take k
theorem full_snoc {F : List Ent} {k : Nat} (h : k < F.length) : full (F.take (k + 1)) = (bif F[k].2.isNone then full (F.take k) else full (F.take k) ++ [F[k]]) := by
  unfold full
  rw [List.take_succ_eq_append_getElem h, List.filter_append]
  cases hb : F[k].2 with
  | none => simp [hb]
  | some b => simp [hb]
set_option maxHeartbeats 1600000 in
set_option maxRecDepth 100000 in
theorem index_func (a : Option Addr) (F : List Ent) (cap : Nat) (w : World) (hE : EO w a F) (hS : SF F) (hlen : F.length ≤ 9223372036854775807) :
    Calls Tryd.prog 66 #[.slice a F.length cap, .func (.func 48) #[] #[]] w fun e w' => ∃ r, e = .returned (.int .i64 r) ∧ Hid (IX F r) ∧ Below w.heap.size w w' := by
  have HE : Hid (EO w a F) := hE
  have HS : Hid (SF F) := hS
  clear hE hS
  go_enter Tryd.func66, Tryd.ntmps66
  go_wp2
  go_loopw [8] (fun iv wr => ∃ k : Nat, k ≤ F.length ∧ iv = .int .i64 k ∧ Hid (full (F.take k) = F.take k) ∧ Hid (Below w.heap.size w wr)) (fun iv _ => F.length - (intOf iv).toNat)
  case atStart => exact ⟨0, Nat.zero_le _, rfl, rfl, Below.refl _ _⟩
  case round =>
    obtain ⟨k, hk, rfl, HF, HB⟩ := hrel
    by_cases hlt : k < F.length
    · have hltz : (k : Int) < (F.length : Int) := by omega
      rcases HE.out with h0 | ⟨q, rfl, hq, hc⟩
      · omega
      have HFs := full_snoc hlt
      have hpos : ∀ b, F[k].2 = some b → 1 ≤ b.x.h := fun b hb => sgB_pos (evB_iff.1 (HS.out _ (List.getElem_mem hlt) b hb)).2.1
      have hck := fun c hc' => (HB.out.cell (p := ⟨q, k * 12 + c, none⟩) hq).trans (hc k hlt c hc')
      obtain ⟨e, he⟩ : ∃ e, F[k] = e := ⟨_, rfl⟩
      have kO := fun W => impl_open e (by rw [← he]; exact hpos) W
      rw [he] at hck
      have HFk : Hid (full (F.take (k + 1)) = (bif e.2.isNone then full (F.take k) else full (F.take k) ++ [e])) := by rw [← he]; exact HFs
      have HTk : Hid (F.take (k + 1) = F.take k ++ [e]) := by rw [← he]; exact List.take_succ_eq_append_getElem hlt
      have HNk : Hid (e.2.isNone = true → F[k].2 = none) := fun h => by rw [he]; exact Option.isNone_iff_eq_none.1 h
      clear hc HFs hpos he
      have hd := twelve (e := e) (a := e.1) (b := e.2.getD zSv) rfl hck
      clear hck
      generalize e.2.getD zSv = y at *
      generalize e.2.isNone = t at *
      obtain ⟨x, ob⟩ := e
      obtain ⟨⟨h, r, s, i, v⟩, g⟩ := x
      obtain ⟨⟨h', r', s', i', v'⟩, g'⟩ := y
      unfold eV at kO
      simp only at kO hd
      obtain ⟨c0, c1, c2, c3, c4, c5, c6, c7, c8, c9, c10, c11⟩ := hd
      go_wp2_with fail
      refine (kO _).mono ?_
      rintro ee w1 ⟨rfl, b1⟩
      have HB1 : Hid (Below w.heap.size w w1) := HB.out.trans (b1.mono HB.out.size)
      clear c0 c1 c2 c3 c4 c5 c6 c7 c8 c9 c10 c11 kO b1
      cases t
      · have HN : Hid (full (F.take (k + 1)) = F.take (k + 1)) := by show _ = _; rw [HFk.out, HTk.out, HF.out]; rfl
        go_wp2
        go_roundw
        case rel => exact ⟨k + 1, by omega, by go_num, HN, HB1⟩
        case measure => simp [intOf]; omega
      · have HN : Hid (IX F k) := .inr ⟨k, rfl, hlt, HNk.out rfl, HF.out⟩
        go_wp2
        go_ret
        exact ⟨_, rfl, HN, HB1.out⟩
    · have hltz : ¬ (k : Int) < (F.length : Int) := by omega
      have HN : Hid (IX F (-1)) := .inl ⟨rfl, by have := HF.out; rwa [List.take_of_length_le (by omega)] at this⟩
      go_wp2
      go_ret
      exact ⟨_, rfl, HN, HB.out⟩
end Go.Proofs.YtclajbadeclbdaaDoor
