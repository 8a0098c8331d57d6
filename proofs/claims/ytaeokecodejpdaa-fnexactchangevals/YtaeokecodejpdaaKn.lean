/- Plain facts on validators: who is right, power, who is enough, whose turn it is; of no Go text. No conditions. -/
import Derived.Test.YtaeokecodejpdaaNum
namespace Go.Proofs.Ytaeokecodejpdaa.Num
/-- A validator: who, and how much. -/
structure V where
  i : Int
  p : Int
  deriving DecidableEq, Inhabited
def nobody : V := ⟨0, 0⟩
def goodV (v : V) : Bool := decide (1 ≤ v.i) && decide (v.i ≤ 99) && decide (1 ≤ v.p) && decide (v.p ≤ 1000)
/-- Is the one at place k right, and above the one ahead of it? -/
def stepOk (l : List V) (k : Nat) : Bool := goodV (l.getD k nobody) && (decide (k = 0) || decide ((l.getD (k - 1) nobody).i < (l.getD k nobody).i))
def vOk (l : List V) : Bool := decide (1 ≤ l.length) && decide (l.length ≤ 7) && (List.range l.length).all (stepOk l)
theorem vOk_iff (l : List V) : vOk l = true ↔ 1 ≤ l.length ∧ l.length ≤ 7 ∧ ∀ k, k < l.length → stepOk l k = true := by
  simp [vOk, and_assoc]
theorem vOk_short {l : List V} (h : l.length < 1 ∨ 7 < l.length) : vOk l = false := by
  rw [← Bool.not_eq_true, vOk_iff]; omega
theorem vOk_bad {l : List V} {k : Nat} (hk : k < l.length) (h : stepOk l k = false) : vOk l = false := by
  rw [← Bool.not_eq_true, vOk_iff]
  intro ⟨_, _, h3⟩
  have := h3 k hk
  rw [h] at this; cases this
theorem vOk_all {l : List V} (h1 : 1 ≤ l.length) (h7 : l.length ≤ 7) (h : ∀ k, k < l.length → stepOk l k = true) : vOk l = true := (vOk_iff l).2 ⟨h1, h7, h⟩
theorem getD_at {l : List V} {k : Nat} (h : k < l.length) : l.getD k nobody = l[k] := by
  rw [List.getD_eq_getElem?_getD, List.getElem?_eq_getElem h]; rfl
theorem step_zero {l : List V} (h : 0 < l.length) : stepOk l 0 = goodV l[0] := by
  unfold stepOk; rw [getD_at h]; simp
theorem step_succ {l : List V} {k : Nat} (h : k + 1 < l.length) : stepOk l (k + 1) = (goodV l[k + 1] && decide (l[k].i < l[k + 1].i)) := by
  unfold stepOk; rw [Nat.add_sub_cancel, getD_at h, getD_at (show k < l.length by omega)]; simp
theorem good_iff' (v : V) : goodV v = true ↔ 1 ≤ v.i ∧ v.i ≤ 99 ∧ 1 ≤ v.p ∧ v.p ≤ 1000 := by
  simp [goodV, and_assoc]
theorem good_of_ok {l : List V} (h : vOk l = true) {k : Nat} (hk : k < l.length) : 1 ≤ l[k].i ∧ l[k].i ≤ 99 ∧ 1 ≤ l[k].p ∧ l[k].p ≤ 1000 := by
  have := ((vOk_iff l).1 h).2.2 k hk
  unfold stepOk at this; rw [getD_at hk] at this
  exact (good_iff' _).1 (Bool.and_eq_true_iff.1 this).1
theorem rise_of_ok {l : List V} (h : vOk l = true) {k : Nat} (hk : k + 1 < l.length) : l[k].i < l[k + 1].i := by
  have := ((vOk_iff l).1 h).2.2 (k + 1) hk
  rw [step_succ hk] at this
  simpa using (Bool.and_eq_true_iff.1 this).2
/-- All power together. -/
def pw (l : List V) : Int := (l.map V.p).sum
theorem pw_snoc (l : List V) (k : Nat) (h : k < l.length) : pw (l.take (k + 1)) = pw (l.take k) + l[k].p := by
  unfold pw
  rw [List.take_succ_eq_append_getElem h, List.map_append, List.sum_append]
  simp
theorem pw_bound : ∀ l : List V, (∀ v ∈ l, 1 ≤ v.p ∧ v.p ≤ 1000) → 0 ≤ pw l ∧ pw l ≤ 1000 * l.length
  | [], _ => by simp [pw]
  | v :: l, h => by
    have ih := pw_bound l (fun x hx => h x (List.mem_cons_of_mem _ hx))
    have := h v (List.mem_cons_self ..)
    have e : pw (v :: l) = v.p + pw l := by simp [pw]
    rw [e, List.length_cons]; omega
theorem mem_ok {l : List V} (h : vOk l = true) : ∀ v ∈ l, 1 ≤ v.p ∧ v.p ≤ 1000 := by
  intro v hv
  obtain ⟨k, hk, rfl⟩ := List.getElem_of_mem hv
  have := good_of_ok h hk
  omega
theorem len_ok {l : List V} (h : vOk l = true) : 1 ≤ l.length ∧ l.length ≤ 7 := by
  have := (vOk_iff l).1 h
  omega
theorem pw_take_bound {l : List V} (h : vOk l = true) (k : Nat) : 0 ≤ pw (l.take k) ∧ pw (l.take k) ≤ 7000 := by
  have h1 := pw_bound (l.take k) (fun v hv => mem_ok h v (List.mem_of_mem_take hv))
  have h2 := len_ok h
  have h3 := List.length_take_le' k l
  omega
def powerOf (l : List V) : Int := bif vOk l then pw l else 0
/-- Is a number among these? -/
def hasI (l : List Int) (x : Int) : Bool := l.contains x
/-- Those whose number is among these. -/
def among (l : List V) (ids : List Int) : List V := l.filter fun v => hasI ids v.i
theorem among_snoc (l : List V) (ids : List Int) (k : Nat) (h : k < l.length) : among (l.take (k + 1)) ids = among (l.take k) ids ++ (if hasI ids l[k].i then [l[k]] else []) := by
  unfold among
  rw [List.take_succ_eq_append_getElem h, List.filter_append]
  congr 1
  simp only [List.filter_cons, List.filter_nil]
theorem pw_append (a b : List V) : pw (a ++ b) = pw a + pw b := by simp [pw]
theorem pw_among_snoc (l : List V) (ids : List Int) (k : Nat) (h : k < l.length) : pw (among (l.take (k + 1)) ids) = pw (among (l.take k) ids) + (if hasI ids l[k].i then l[k].p else 0) := by
  rw [among_snoc l ids k h, pw_append]
  congr 1
  split <;> simp [pw]
theorem among_bound {l : List V} (h : vOk l = true) (ids : List Int) (k : Nat) : 0 ≤ pw (among (l.take k) ids) ∧ pw (among (l.take k) ids) ≤ 7000 ∧ (among (l.take k) ids).length ≤ 7 := by
  have h0 : ∀ v ∈ among (l.take k) ids, v ∈ l := fun v hv => List.mem_of_mem_take (List.mem_filter.1 hv).1
  have h1 := pw_bound (among (l.take k) ids) (fun v hv => mem_ok h v (h0 v hv))
  have h2 := len_ok h
  have h3 := List.length_filter_le (fun v : V => hasI ids v.i) (l.take k)
  have h4 := List.length_take_le' k l
  have h5 : (among (l.take k) ids).length ≤ 7 := by unfold among; omega
  omega
def enough (l : List V) (ids : List Int) : Bool := vOk l && decide (2 * pw l < 3 * pw (among l ids))
/-- Whose turn it is. -/
def turn (l : List V) (h r : Int) : Int := bif vOk l && decide (0 ≤ h) && decide (0 ≤ r) then (l.getD ((h % l.length + r % l.length) % l.length).toNat nobody).i else 0
end Go.Proofs.Ytaeokecodejpdaa.Num
