/- Plain facts on validators: who is right, power, who is enough, whose turn it is; of no Go text. No conditions. Validators in cells, two to each; a drawn region whose callees lay blocks of their own; what spec.l1In, impl.isValId and the two ValsOk answer; old memory stays. Conditions: none of ours. -/
import Derived.Test.YtaeokecodejpdaaDoorNum
import Derived.Test.YtaeokecodejpdaaDoorRows
import Derived.Test.YtaeokecodejpdaaDoorLaw
import Derived.WalkKit
import Derived.WalkLawsBesides
import Derived.WalkSpells
import Derived.Deep.QuietTactic
import Derived.BigQuiet
import Derived.Deep.Heap
namespace Go.Proofs.YtaeokecodejpdaaDoor.Num
/-- A validator: who, and how much. -/
structure V where
  i : Int
  p : Int
  deriving DecidableEq, Inhabited
def nobody : V := ⟨0, 0⟩
def goodV (v : V) : Bool := decide (1 ≤ v.i) && decide (v.i ≤ 99) && decide (1 ≤ v.p) && decide (v.p ≤ 1000)
/-- Is the one at place k right, and above the one ahead of it? -/
def stepOk (l : List V) (k : Nat) : Bool := goodV (l.getD k nobody) && (decide (k = 0) || decide ((l.getD (k - 1) nobody).i < (l.getD k nobody).i))
def vOk (l : List V) : Bool := decide (1 ≤ l.length) && decide (l.length ≤ 7) && (List.range l.length).all (stepOk l)
theorem vOk_iff (l : List V) : vOk l = true ↔ 1 ≤ l.length ∧ l.length ≤ 7 ∧ ∀ k, k < l.length → stepOk l k = true := by
  simp [vOk, and_assoc]
theorem vOk_short {l : List V} (h : l.length < 1 ∨ 7 < l.length) : vOk l = false := by
  rw [← Bool.not_eq_true, vOk_iff]; omega
theorem vOk_bad {l : List V} {k : Nat} (hk : k < l.length) (h : stepOk l k = false) : vOk l = false := by
  rw [← Bool.not_eq_true, vOk_iff]
  intro ⟨_, _, h3⟩
  have := h3 k hk
  rw [h] at this; cases this
theorem vOk_all {l : List V} (h1 : 1 ≤ l.length) (h7 : l.length ≤ 7) (h : ∀ k, k < l.length → stepOk l k = true) : vOk l = true := (vOk_iff l).2 ⟨h1, h7, h⟩
theorem getD_at {l : List V} {k : Nat} (h : k < l.length) : l.getD k nobody = l[k] := by
  rw [List.getD_eq_getElem?_getD, List.getElem?_eq_getElem h]; rfl
theorem step_zero {l : List V} (h : 0 < l.length) : stepOk l 0 = goodV l[0] := by
  unfold stepOk; rw [getD_at h]; simp
theorem step_succ {l : List V} {k : Nat} (h : k + 1 < l.length) : stepOk l (k + 1) = (goodV l[k + 1] && decide (l[k].i < l[k + 1].i)) := by
  unfold stepOk; rw [Nat.add_sub_cancel, getD_at h, getD_at (show k < l.length by omega)]; simp
theorem good_iff' (v : V) : goodV v = true ↔ 1 ≤ v.i ∧ v.i ≤ 99 ∧ 1 ≤ v.p ∧ v.p ≤ 1000 := by
  simp [goodV, and_assoc]
theorem good_of_ok {l : List V} (h : vOk l = true) {k : Nat} (hk : k < l.length) : 1 ≤ l[k].i ∧ l[k].i ≤ 99 ∧ 1 ≤ l[k].p ∧ l[k].p ≤ 1000 := by
  have := ((vOk_iff l).1 h).2.2 k hk
  unfold stepOk at this; rw [getD_at hk] at this
  exact (good_iff' _).1 (Bool.and_eq_true_iff.1 this).1
theorem rise_of_ok {l : List V} (h : vOk l = true) {k : Nat} (hk : k + 1 < l.length) : l[k].i < l[k + 1].i := by
  have := ((vOk_iff l).1 h).2.2 (k + 1) hk
  rw [step_succ hk] at this
  simpa using (Bool.and_eq_true_iff.1 this).2
/-- All power together. -/
def pw (l : List V) : Int := (l.map V.p).sum
theorem pw_snoc (l : List V) (k : Nat) (h : k < l.length) : pw (l.take (k + 1)) = pw (l.take k) + l[k].p := by
  unfold pw
  rw [List.take_succ_eq_append_getElem h, List.map_append, List.sum_append]
  simp
theorem pw_bound : ∀ l : List V, (∀ v ∈ l, 1 ≤ v.p ∧ v.p ≤ 1000) → 0 ≤ pw l ∧ pw l ≤ 1000 * l.length
  | [], _ => by simp [pw]
  | v :: l, h => by
    have ih := pw_bound l (fun x hx => h x (List.mem_cons_of_mem _ hx))
    have := h v (List.mem_cons_self ..)
    have e : pw (v :: l) = v.p + pw l := by simp [pw]
    rw [e, List.length_cons]; omega
theorem mem_ok {l : List V} (h : vOk l = true) : ∀ v ∈ l, 1 ≤ v.p ∧ v.p ≤ 1000 := by
  intro v hv
  obtain ⟨k, hk, rfl⟩ := List.getElem_of_mem hv
  have := good_of_ok h hk
  omega
theorem len_ok {l : List V} (h : vOk l = true) : 1 ≤ l.length ∧ l.length ≤ 7 := by
  have := (vOk_iff l).1 h
  omega
theorem pw_take_bound {l : List V} (h : vOk l = true) (k : Nat) : 0 ≤ pw (l.take k) ∧ pw (l.take k) ≤ 7000 := by
  have h1 := pw_bound (l.take k) (fun v hv => mem_ok h v (List.mem_of_mem_take hv))
  have h2 := len_ok h
  have h3 := List.length_take_le' k l
  omega
def powerOf (l : List V) : Int := bif vOk l then pw l else 0
/-- Is a number among these? -/
def hasI (l : List Int) (x : Int) : Bool := l.contains x
/-- Those whose number is among these. -/
def among (l : List V) (ids : List Int) : List V := l.filter fun v => hasI ids v.i
theorem among_snoc (l : List V) (ids : List Int) (k : Nat) (h : k < l.length) : among (l.take (k + 1)) ids = among (l.take k) ids ++ (if hasI ids l[k].i then [l[k]] else []) := by
  unfold among
  rw [List.take_succ_eq_append_getElem h, List.filter_append]
  congr 1
  simp only [List.filter_cons, List.filter_nil]
theorem pw_append (a b : List V) : pw (a ++ b) = pw a + pw b := by simp [pw]
theorem pw_among_snoc (l : List V) (ids : List Int) (k : Nat) (h : k < l.length) : pw (among (l.take (k + 1)) ids) = pw (among (l.take k) ids) + (if hasI ids l[k].i then l[k].p else 0) := by
  rw [among_snoc l ids k h, pw_append]
  congr 1
  split <;> simp [pw]
theorem among_bound {l : List V} (h : vOk l = true) (ids : List Int) (k : Nat) : 0 ≤ pw (among (l.take k) ids) ∧ pw (among (l.take k) ids) ≤ 7000 ∧ (among (l.take k) ids).length ≤ 7 := by
  have h0 : ∀ v ∈ among (l.take k) ids, v ∈ l := fun v hv => List.mem_of_mem_take (List.mem_filter.1 hv).1
  have h1 := pw_bound (among (l.take k) ids) (fun v hv => mem_ok h v (h0 v hv))
  have h2 := len_ok h
  have h3 := List.length_filter_le (fun v : V => hasI ids v.i) (l.take k)
  have h4 := List.length_take_le' k l
  have h5 : (among (l.take k) ids).length ≤ 7 := by unfold among; omega
  omega
def enough (l : List V) (ids : List Int) : Bool := vOk l && decide (2 * pw l < 3 * pw (among l ids))
/-- Whose turn it is. -/
def turn (l : List V) (h r : Int) : Int := bif vOk l && decide (0 ≤ h) && decide (0 ≤ r) then (l.getD ((h % l.length + r % l.length) % l.length).toNat nobody).i else 0
end Go.Proofs.YtaeokecodejpdaaDoor.Num
namespace Go.Proofs.YtaeokecodejpdaaDoor
open Go.RowKit
open Num
set_option linter.unusedVariables false
/-- A world that lies behind w: old memory stands. -/
structure Bel (w : World) where
  W : World
  h : Below w.heap.size w W
theorem wp_region_below {P : Program} {id : Nat} {Q : Exit → Act → World → Prop} {a : Act} {w : World} {l : List Oper} (hm : P.follows .mixedOrders = true) (hB : Region.lexB .any l.toArray = true)
    (h : wpQuiet P l.toArray (fun w' => ∃ p : Bel w, w' = p.W) (fun a' => ∀ w', (∃ p : Bel w, w' = p.W) → Q .normal a' w') l a) : (Code.region id l.toArray true).wp P Q a w :=
  wp_region_quiet (C := fun w' => ∃ p : Bel w, w' = p.W) hm hB ⟨⟨_, (Below.refl _ w).drew⟩, rfl⟩ (by simpa using h)
theorem bel_of {P : Program} {f : FuncId} {args : Array Value} {w : World} {p : Bel w} {v : Value}
    (h : Calls P f args p.W fun e w' => e = .returned v ∧ Below p.W.heap.size p.W w') : Calls P f args p.W fun e w'' => e = .returned v ∧ ∃ q : Bel w, w'' = q.W :=
  h.mono fun _ w' ⟨he, hb⟩ => ⟨he, ⟨w', p.h.trans (hb.mono p.h.size)⟩, rfl⟩
theorem bel_of_same {P : Program} {f : FuncId} {args : Array Value} {w : World} {p : Bel w} {v : Value}
    (h : Calls P f args p.W fun e w' => e = .returned v ∧ w' = p.W) : Calls P f args p.W fun e w'' => e = .returned v ∧ ∃ q : Bel w, w'' = q.W :=
  h.mono fun _ w' ⟨he, hb⟩ => ⟨he, p, hb⟩
theorem bel_some (w : World) : Nonempty (Bel w) := ⟨⟨w, Below.refl _ _⟩⟩
theorem Bel.cell {w : World} (p : Bel w) {a : Addr} {v : Value} (h : w.cell? a = some v) : p.W.cell? a = some v := by
  rw [p.h.cell (World.block_lt_of_cell? w _ h)]; exact h
/-- Validators in cells from a place on. -/
def VAt (w : World) (b o : Nat) (l : List V) : Prop := ∀ j (hj : j < l.length), w.cell? ⟨b, o + j * 2, none⟩ = some (.int .i64 l[j].i) ∧ w.cell? ⟨b, o + j * 2 + 1, none⟩ = some (.int .i64 l[j].p)
/-- .. where a slice says, if any. -/
def VO (w : World) (a : Option Addr) (l : List V) : Prop := l.length = 0 ∨ ∃ b o, a = some ⟨b, o, none⟩ ∧ VAt w b o l
theorem VAt.below {w w' : World} {b o : Nat} {l : List V} (h : VAt w b o l) (hb : Below w.heap.size w w') : VAt w' b o l := fun j hj => by
  obtain ⟨h1, h2⟩ := h j hj
  exact ⟨by rw [hb.cell (World.block_lt_of_cell? w _ h1)]; exact h1, by rw [hb.cell (World.block_lt_of_cell? w _ h2)]; exact h2⟩
theorem VO.below {w w' : World} {a : Option Addr} {l : List V} (h : VO w a l) (hb : Below w.heap.size w w') : VO w' a l := by
  rcases h with h | ⟨b, o, h1, h2⟩
  · exact .inl h
  · exact .inr ⟨b, o, h1, h2.below hb⟩
/-- Numbers in cells from a place on; .. where a slice says, if any. -/
def IAt (w : World) (b o : Nat) (l : List Int) : Prop := ∀ j (hj : j < l.length), w.cell? ⟨b, o + j, none⟩ = some (.int .i64 l[j])
def Nums (w : World) (a : Option Addr) (l : List Int) : Prop := l.length = 0 ∨ ∃ b o, a = some ⟨b, o, none⟩ ∧ IAt w b o l
theorem IAt.below {w w' : World} {b o : Nat} {l : List Int} (h : IAt w b o l) (hb : Below w.heap.size w w') : IAt w' b o l := fun j hj => by
  have h1 := h j hj
  rw [hb.cell (World.block_lt_of_cell? w _ h1)]; exact h1
theorem Nums.below {w w' : World} {a : Option Addr} {l : List Int} (h : Nums w a l) (hb : Below w.heap.size w w') : Nums w' a l := by
  rcases h with h | ⟨b, o, h1, h2⟩
  · exact .inl h
  · exact .inr ⟨b, o, h1, h2.below hb⟩
theorem VAt.o {w : World} {b o : Nat} {l : List V} (h : VAt w b o l) : VO w (some ⟨b, o, none⟩) l := .inr ⟨b, o, rfl, h⟩
theorem IAt.o {w : World} {b o : Nat} {l : List Int} (h : IAt w b o l) : Nums w (some ⟨b, o, none⟩) l := .inr ⟨b, o, rfl, h⟩
/-- Cells that may be written. -/
def Room (w : World) (b o n : Nat) : Prop := ∀ j, j < n → (w.cell? ⟨b, o + j, none⟩).isSome = true ∧ w.frozen? ⟨b, o + j, none⟩ = false
theorem Room.below {w w' : World} {b o n : Nat} (h : Room w b o n) (hb : Below w.heap.size w w') : Room w' b o n := fun j hj => by
  obtain ⟨h1, h2⟩ := h j hj
  obtain ⟨u, hu⟩ := Option.isSome_iff_exists.1 h1
  have hlt := World.block_lt_of_cell? w _ hu
  exact ⟨by rw [hb.cell (p := ⟨b, o + j, none⟩) hlt]; exact h1, by rw [hb.frozen (p := ⟨b, o + j, none⟩) hlt]; exact h2⟩
theorem some_set (w : World) (a x : Addr) (u : Value) (h : (w.cell? x).isSome = true) : ((w.setCell a u).cell? x).isSome = true := by
  by_cases e : x = a
  · subst e; rw [World.cell?_setCell_same' w x u h]; rfl
  · rw [World.cell?_setCell_other w a x u (fun h => e h.symm)]; exact h
theorem Room.set {w : World} {b o n : Nat} (h : Room w b o n) (g p : Nat) (u : Value) : Room (w.setCell ⟨g, p, none⟩ u) b o n := fun j hj => by
  obtain ⟨h1, h2⟩ := h j hj
  exact ⟨some_set w _ _ u h1, by rw [World.frozen?_setCell]; exact h2⟩
theorem VAt.other {w : World} {b o : Nat} {l : List V} (h : VAt w b o l) (g p : Nat) (u : Value) (hne : g ≠ b) : VAt (w.setCell ⟨g, p, none⟩ u) b o l := fun j hj => by
  obtain ⟨h1, h2⟩ := h j hj
  exact ⟨by rw [World.cell?_setCell_other w ⟨g, p, none⟩ ⟨b, o + j * 2, none⟩ _ (fun e => by injection e; omega)]; exact h1,
    by rw [World.cell?_setCell_other w ⟨g, p, none⟩ ⟨b, o + j * 2 + 1, none⟩ _ (fun e => by injection e; omega)]; exact h2⟩
/-- One laid behind those that lie. -/
theorem VAt.snoc {w : World} {b o : Nat} {l : List V} {v : V} (h : VAt w b o l) (h1 : (w.cell? ⟨b, o + l.length * 2, none⟩).isSome = true) (h2 : (w.cell? ⟨b, o + l.length * 2 + 1, none⟩).isSome = true) :
    VAt ((w.setCell ⟨b, o + l.length * 2, none⟩ (.int .i64 v.i)).setCell ⟨b, o + l.length * 2 + 1, none⟩ (.int .i64 v.p)) b o (l ++ [v]) := fun j hj => by
  by_cases hlt : j < l.length
  · obtain ⟨k1, k2⟩ := h j hlt
    rw [World.cell?_setCell_other _ ⟨b, o + l.length * 2 + 1, none⟩ ⟨b, o + j * 2, none⟩ _ (fun e => by injection e; omega), World.cell?_setCell_other _ ⟨b, o + l.length * 2, none⟩ ⟨b, o + j * 2, none⟩ _ (fun e => by injection e; omega),
      World.cell?_setCell_other _ ⟨b, o + l.length * 2 + 1, none⟩ ⟨b, o + j * 2 + 1, none⟩ _ (fun e => by injection e; omega), World.cell?_setCell_other _ ⟨b, o + l.length * 2, none⟩ ⟨b, o + j * 2 + 1, none⟩ _ (fun e => by injection e; omega), k1, k2]
    simp [hlt]
  · have : j = l.length := by simp at hj; omega
    subst this
    obtain ⟨u1, e1⟩ := Option.isSome_iff_exists.1 h1
    obtain ⟨u2, e2⟩ := Option.isSome_iff_exists.1 h2
    have e3 : (w.setCell ⟨b, o + l.length * 2, none⟩ (.int .i64 v.i)).cell? ⟨b, o + l.length * 2 + 1, none⟩ = some u2 := by
      rw [World.cell?_setCell_other _ ⟨b, o + l.length * 2, none⟩ ⟨b, o + l.length * 2 + 1, none⟩ _ (fun e => by injection e; omega)]; exact e2
    rw [World.cell?_setCell_other _ ⟨b, o + l.length * 2 + 1, none⟩ ⟨b, o + l.length * 2, none⟩ _ (fun e => by injection e; omega), World.cell?_setCell_same _ _ _ e1, World.cell?_setCell_same _ _ _ e3]
    simp
def inIs (x lo hi : Int) : Bool := decide (lo ≤ x) && decide (x ≤ hi)
set_option maxHeartbeats 400000 in
theorem spec_in (x lo hi : Int) (w : World) :
    Calls Tryd.prog 30 #[.int .i64 x, .int .i64 lo, .int .i64 hi] w fun e w' => e = .returned (.bool (inIs x lo hi)) ∧ w' = w := by
  have HI : Hid (inIs x lo hi = (decide (lo ≤ x) && decide (x ≤ hi))) := rfl
  by_cases h1 : lo ≤ x
  · by_cases h2 : x ≤ hi
    all_goals
      go_enter Tryd.func30, Tryd.ntmps30
      go_wp2
      go_ret
      exact ⟨by rw [HI.out]; simp [h1, h2], rfl⟩
  · go_enter Tryd.func30, Tryd.ntmps30
    go_wp2
    go_ret
    exact ⟨by rw [HI.out]; simp; omega, rfl⟩
set_option maxHeartbeats 400000 in
theorem impl_isId (x : Int) (w : World) :
    Calls Tryd.prog 38 #[.int .i64 x] w fun e w' => e = .returned (.bool (inIs x 1 99)) ∧ w' = w := by
  have HI : Hid (inIs x 1 99 = (decide (1 ≤ x) && decide (x ≤ 99))) := rfl
  by_cases h1 : 1 ≤ x
  · by_cases h2 : x ≤ 99
    all_goals
      go_enter Tryd.func38, Tryd.ntmps38
      go_wp2
      go_ret
      exact ⟨by rw [HI.out]; simp [h1, h2], rfl⟩
  · go_enter Tryd.func38, Tryd.ntmps38
    go_wp2
    go_ret
    exact ⟨by rw [HI.out]; simp; omega, rfl⟩
end Go.Proofs.YtaeokecodejpdaaDoor
