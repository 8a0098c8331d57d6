/- Plain facts on headers: which are right, their texts, what is read from a text; of no Go text. No conditions. -/
import Derived.Test.YtdpjlfgfacjfeaaDoorVs
namespace Go.Proofs.YtdpjlfgfacjfeaaDoor.Num
set_option linter.unusedVariables false
def inIs (x lo hi : Int) : Bool := decide (lo ≤ x) && decide (x ≤ hi)
/-- A header: height, time, last, validators, the next ones, data. -/
structure H where
  h : Int
  t : Int
  a : ByteArray
  v : ByteArray
  n : ByteArray
  d : ByteArray
def zH : H := ⟨0, 0, ⟨#[]⟩, ⟨#[]⟩, ⟨#[]⟩, ⟨#[]⟩⟩
def lastB (x : Int) : Int := if x = 1 then 0 else 8
def hOk (x : H) : Bool := inIs x.h 1 1000000 && inIs x.t 0 1000000 && decide ((x.a.size : Int) = lastB x.h) && decide (x.d.size ≤ 20) && decide (x.v.size = 8) && decide (x.n.size = 8)
theorem hOk_iff (x : H) : hOk x = true ↔ 1 ≤ x.h ∧ x.h ≤ 1000000 ∧ 0 ≤ x.t ∧ x.t ≤ 1000000 ∧ (x.a.size : Int) = lastB x.h ∧ x.d.size ≤ 20 ∧ x.v.size = 8 ∧ x.n.size = 8 := by
  simp [hOk, inIs, and_assoc]
theorem hOk_no {x : H} (h : ¬ (1 ≤ x.h ∧ x.h ≤ 1000000 ∧ 0 ≤ x.t ∧ x.t ≤ 1000000 ∧ (x.a.size : Int) = lastB x.h ∧ x.d.size ≤ 20 ∧ x.v.size = 8 ∧ x.n.size = 8)) : hOk x = false := by
  rw [← Bool.not_eq_true, hOk_iff]; exact h
theorem hOk_a {x : H} (h : hOk x = true) : x.a.size ≤ 8 := by
  have := ((hOk_iff x).1 h).2.2.2.2.1
  unfold lastB at this
  split at this <;> omega
/-- A text with its size ahead of it. -/
def pc (s : ByteArray) : ByteArray := var (s.size : Int) ++ s
def shH (x : H) : ByteArray := var x.h ++ var x.t ++ pc x.a ++ pc x.v ++ pc x.n ++ pc x.d
def showH (x : H) : ByteArray := bif hOk x then shH x else ⟨#[]⟩
theorem showH_no {x : H} (h : hOk x = false) : showH x = ⟨#[]⟩ := by unfold showH; rw [h]; rfl
theorem showH_yes {x : H} (h : hOk x = true) : showH x = shH x := by unfold showH; rw [h]; rfl
theorem pc_size (s : ByteArray) : (pc s).size ≤ 7 + s.size := by
  have := var_size (s.size : Int)
  unfold pc; rw [ByteArray.size_append]; omega
theorem list_append (a b : ByteArray) : (a ++ b).data.toList = a.data.toList ++ b.data.toList := by
  rw [ByteArray.data_append, Array.toList_append]
theorem list_inj {a b : ByteArray} (h : a.data.toList = b.data.toList) : a = b := ByteArray.ext (Array.ext' h)
def pl (s : ByteArray) : List UInt8 := vl 6 (s.size : Int) ++ s.data.toList
theorem pc_list (s : ByteArray) (h : s.size ≤ 562949953421311) : (pc s).data.toList = pl s := by
  unfold pc pl; rw [list_append, var_list _ (by omega) (by omega)]
def shL (x : H) : List UInt8 := vl 6 x.h ++ (vl 6 x.t ++ (pl x.a ++ (pl x.v ++ (pl x.n ++ pl x.d))))
theorem shH_list {x : H} (h : hOk x = true) : (shH x).data.toList = shL x := by
  have h1 := (hOk_iff x).1 h
  have h2 := hOk_a h
  unfold shH shL
  simp only [list_append]
  rw [var_list _ (by omega) (by omega), var_list _ (by omega) (by omega), pc_list _ (by omega), pc_list _ (by omega), pc_list _ (by omega), pc_list _ (by omega)]
  simp only [List.append_assoc]
theorem shH_size (x : H) : (shH x).size ≤ 42 + x.a.size + x.v.size + x.n.size + x.d.size := by
  have := var_size x.h
  have := var_size x.t
  have := pc_size x.a
  have := pc_size x.v
  have := pc_size x.n
  have := pc_size x.d
  unfold shH
  simp only [ByteArray.size_append]; omega
theorem showH_size (x : H) : (showH x).size ≤ 86 := by
  cases h : hOk x with
  | false => rw [showH_no h]; show 0 ≤ 86; omega
  | true =>
    have h1 := (hOk_iff x).1 h
    have h2 := hOk_a h
    have := shH_size x
    rw [showH_yes h]; omega
/-- What is taken off a text: a number, and what is left; a text with its size, and what is left. -/
def nI (s : ByteArray) : Int := (rv s.data.toList).1
def nR (s : ByteArray) : ByteArray := s.extract (rv s.data.toList).2 s.size
def zM (s : ByteArray) : Nat := min (nI s).toNat (nR s).size
def zP (s : ByteArray) : ByteArray := (nR s).extract 0 (zM s)
def zR (s : ByteArray) : ByteArray := (nR s).extract (zM s) (nR s).size
theorem nR_size (s : ByteArray) : (nR s).size ≤ s.size := by unfold nR; rw [ByteArray.size_extract]; omega
theorem zR_size (s : ByteArray) : (zR s).size ≤ s.size := by have := nR_size s; unfold zR; rw [ByteArray.size_extract]; omega
theorem zP_size (s : ByteArray) : (zP s).size ≤ s.size := by have := nR_size s; unfold zP; rw [ByteArray.size_extract]; omega
theorem take_ext (s : ByteArray) (a b : Nat) : (s.extract a b).data.toList = (s.data.toList.drop a).take (b - a) := by
  rw [ByteArray.data_extract, Array.toList_extract, List.extract]
theorem n_of {s : ByteArray} {n : Int} {l : List UInt8} (h : s.data.toList = vl 6 n ++ l) (h0 : 0 ≤ n) (h1 : n ≤ 562949953421311) : nI s = n ∧ (nR s).data.toList = l := by
  unfold nI nR
  rw [drop_ext, h, rv_var n l h0 h1]
  exact ⟨rfl, List.drop_left⟩
theorem z_of {s p : ByteArray} {l : List UInt8} (h : s.data.toList = pl p ++ l) (h1 : p.size ≤ 562949953421311) : zP s = p ∧ (zR s).data.toList = l := by
  unfold pl at h
  rw [List.append_assoc] at h
  obtain ⟨e1, e2⟩ := n_of h (by omega) (by omega)
  have hs : (nR s).size = p.size + l.length := by rw [← len_toList, e2, List.length_append, len_toList]
  have hm : zM s = p.size := by unfold zM; rw [e1, hs]; omega
  constructor
  · refine list_inj ?_
    unfold zP
    rw [take_ext, e2, hm, List.drop_zero, Nat.sub_zero, ← len_toList p, List.take_left]
  · unfold zR
    rw [drop_ext, e2, hm, ← len_toList p, List.drop_left]
def irH (s : ByteArray) : H := ⟨nI s, nI (nR s), zP (nR (nR s)), zP (zR (nR (nR s))), zP (zR (zR (nR (nR s)))), zP (zR (zR (zR (nR (nR s)))))⟩
theorem ir_back {x : H} {s : ByteArray} (h : hOk x = true) (hs : showH x = s) : irH s = x := by
  have h1 := (hOk_iff x).1 h
  have h2 := hOk_a h
  have hl : s.data.toList = shL x := by rw [← hs, showH_yes h, shH_list h]
  unfold shL at hl
  obtain ⟨a1, l1⟩ := n_of hl (by omega) (by omega)
  obtain ⟨a2, l2⟩ := n_of l1 (by omega) (by omega)
  obtain ⟨a3, l3⟩ := z_of l2 (by omega)
  obtain ⟨a4, l4⟩ := z_of l3 (by omega)
  obtain ⟨a5, l5⟩ := z_of l4 (by omega)
  rw [← List.append_nil (pl x.d)] at l5
  obtain ⟨a6, l6⟩ := z_of l5 (by omega)
  unfold irH
  rw [a1, a2, a3, a4, a5, a6]
/-- What is read from a text. -/
def rdH (s : ByteArray) : H × Bool := bif hOk (irH s) && decide (showH (irH s) = s) then (irH s, true) else (zH, false)
theorem rd_bad {s : ByteArray} (h : hOk (irH s) = false) : rdH s = (zH, false) := by unfold rdH; rw [h]; rfl
theorem rd_other {s : ByteArray} (h : ¬ showH (irH s) = s) : rdH s = (zH, false) := by
  unfold rdH; rw [decide_eq_false h, Bool.and_false]; rfl
theorem rd_good {s : ByteArray} (h : hOk (irH s) = true) (h1 : showH (irH s) = s) : rdH s = (irH s, true) := by
  unfold rdH; rw [h, decide_eq_true h1]; rfl
theorem rd_yes {x : H} {s : ByteArray} (h : hOk x = true) (hs : showH x = s) : rdH s = (x, true) := by
  have e := ir_back h hs
  rw [rd_good (by rw [e]; exact h) (by rw [e]; exact hs), e]
theorem rd_no {s : ByteArray} (h : ∀ x, hOk x = true → showH x = s → False) : rdH s = (zH, false) := by
  by_cases h1 : hOk (irH s) = true
  · exact rd_other fun h2 => h _ h1 h2
  · exact rd_bad (by simpa using h1)
/-- A text with its size, taken at a place. -/
def tk (s : ByteArray) (a : Int) : ByteArray × Int :=
  if a < 0 ∨ (rvAt s a.toNat).2 = 0 ∨ (s.size : Int) - (a + (rvAt s a.toNat).2) < (rvAt s a.toNat).1 then (⟨#[]⟩, -1)
  else (s.extract (a.toNat + (rvAt s a.toNat).2) (a.toNat + (rvAt s a.toNat).2 + (rvAt s a.toNat).1.toNat), a + (rvAt s a.toNat).2 + (rvAt s a.toNat).1)
theorem tk_neg (s : ByteArray) (a : Int) (h : a < 0) : tk s a = (⟨#[]⟩, -1) := by unfold tk; rw [if_pos (.inl h)]
theorem tk_none (s : ByteArray) (a : Nat) (h : (rvAt s a).2 = 0) : tk s a = (⟨#[]⟩, -1) := by unfold tk; rw [if_pos (.inr (.inl h))]
theorem tk_less (s : ByteArray) (a : Nat) (h : (s.size : Int) - ((a : Int) + (rvAt s a).2) < (rvAt s a).1) : tk s a = (⟨#[]⟩, -1) := by unfold tk; rw [if_pos (.inr (.inr h))]
theorem tk_some (s : ByteArray) (a : Nat) (h : 0 < (rvAt s a).2) (h1 : (rvAt s a).1 ≤ (s.size : Int) - ((a : Int) + (rvAt s a).2)) :
    tk s a = (s.extract (a + (rvAt s a).2) (a + (rvAt s a).2 + (rvAt s a).1.toNat), (a : Int) + (rvAt s a).2 + (rvAt s a).1) := by
  unfold tk
  rw [if_neg (by simp only [Int.toNat_natCast]; omega)]
  simp only [Int.toNat_natCast]
theorem tk_bound (s : ByteArray) (a : Int) : ((tk s a).2 = -1 ∨ 0 ≤ (tk s a).2 ∧ (tk s a).2 ≤ (s.size : Int)) ∧ (tk s a).1.size ≤ s.size := by
  unfold tk
  split
  · exact ⟨.inl rfl, by show 0 ≤ s.size; omega⟩
  · rename_i h
    have := rvAt_bound s a.toNat
    refine ⟨.inr ⟨by show 0 ≤ a + _ + _; omega, by show a + _ + _ ≤ (s.size : Int); omega⟩, ?_⟩
    rw [ByteArray.size_extract]; omega
theorem rvAt_of {s : ByteArray} {a : Nat} {n : Int} {l : List UInt8} (h : s.data.toList.drop a = vl 6 n ++ l) (h0 : 0 ≤ n) (h1 : n ≤ 562949953421311) : rvAt s a = (n, (vl 6 n).length) ∧ s.data.toList.drop (a + (vl 6 n).length) = l ∧ 0 < (vl 6 n).length := by
  unfold rvAt
  rw [h, rv_var n l h0 h1]
  obtain ⟨c, l', e⟩ := vl_cons 6 n
  exact ⟨rfl, by rw [← List.drop_drop, h, List.drop_left], by rw [e]; simp⟩
theorem tk_of {s p : ByteArray} {a : Nat} {l : List UInt8} (h : s.data.toList.drop a = pl p ++ l) (h1 : p.size ≤ 562949953421311) : tk s (a : Int) = (p, ((a + (pl p).length : Nat) : Int)) ∧ s.data.toList.drop (a + (pl p).length) = l := by
  unfold pl at h
  rw [List.append_assoc] at h
  obtain ⟨e1, e2, e3⟩ := rvAt_of h (by omega) (by omega)
  have hl : (pl p).length = (vl 6 (p.size : Int)).length + p.size := by unfold pl; rw [List.length_append, len_toList]
  have hs := congrArg List.length e2
  rw [List.length_drop, List.length_append, len_toList, len_toList] at hs
  have h0 : a + (vl 6 (p.size : Int)).length + p.size ≤ s.size ∨ p.size = 0 ∧ s.size < a + (vl 6 (p.size : Int)).length := by omega
  have h2 := (rvAt_bound s a).1
  rw [e1] at h2
  simp only at h2
  have h3 : a + (vl 6 (p.size : Int)).length + p.size ≤ s.size := by omega
  have e4 := congrArg Prod.snd e1
  have e5 := congrArg Prod.fst e1
  simp only at e4 e5
  constructor
  · rw [tk_some s a (by omega) (by omega), e4, e5]
    simp only [Int.toNat_natCast]
    refine Prod.ext ?_ ?_
    · refine list_inj ?_
      rw [take_ext, e2, Nat.add_sub_cancel_left, ← len_toList p, List.take_left]
    · simp only; rw [hl]; omega
  · rw [hl, ← Nat.add_assoc, ← List.drop_drop, e2, ← len_toList p, List.drop_left]
theorem vL_two {s : ByteArray} {b : Nat} {xs : List Int} (h : vL s 0 2 = some (xs, b)) : xs = [(rvAt s 0).1, (rvAt s (rvAt s 0).2).1] ∧ b = (rvAt s 0).2 + (rvAt s (rvAt s 0).2).2 ∧ 0 < (rvAt s 0).2 := by
  by_cases h0 : (rvAt s 0).2 = 0
  · have h1 : vL s 0 1 = none := vL_no (s := s) (a := 0) (n := 0) (b := 0) (xs := []) rfl h0
    rw [vL_none h1] at h; cases h
  · have h1 : vL s 0 1 = some ([] ++ [(rvAt s 0).1], 0 + (rvAt s 0).2) := vL_go (s := s) (a := 0) (n := 0) (b := 0) (xs := []) rfl (by omega)
    rw [Nat.zero_add] at h1
    by_cases h2 : (rvAt s (rvAt s 0).2).2 = 0
    · rw [vL_no h1 h2] at h; cases h
    · rw [vL_go h1 (by omega)] at h
      simp at h
      exact ⟨h.1.symm, h.2.symm, by omega⟩
theorem vL_shown {x : H} {s : ByteArray} (h : hOk x = true) (hs : showH x = s) : vL s 0 2 = some ([x.h, x.t], (vl 6 x.h).length + (vl 6 x.t).length) ∧ s.data.toList.drop ((vl 6 x.h).length + (vl 6 x.t).length) = pl x.a ++ (pl x.v ++ (pl x.n ++ pl x.d)) := by
  have h1 := (hOk_iff x).1 h
  have hl : s.data.toList.drop 0 = shL x := by rw [List.drop_zero, ← hs, showH_yes h, shH_list h]
  unfold shL at hl
  obtain ⟨a1, l1, p1⟩ := rvAt_of hl (by omega) (by omega)
  obtain ⟨a2, l2, p2⟩ := rvAt_of l1 (by omega) (by omega)
  rw [Nat.zero_add] at a2 l2
  have e1 : vL s 0 1 = some ([] ++ [(rvAt s 0).1], 0 + (rvAt s 0).2) := vL_go (s := s) (a := 0) (n := 0) (b := 0) (xs := []) rfl (by rw [a1]; exact p1)
  rw [a1, Nat.zero_add] at e1
  have e2 := vL_go e1 (by show 0 < (rvAt s (vl 6 x.h).length).2; rw [a2]; exact p2)
  simp only [a2] at e2
  exact ⟨e2, l2⟩
theorem sp_none {s : ByteArray} (h : vL s 0 2 = none) : rdH s = (zH, false) := rd_no fun x hx hs => by
  rw [(vL_shown hx hs).1] at h; cases h
/-- What is read by places. -/
def srH (s : ByteArray) (xs : List Int) (b : Int) : H := ⟨xs.getD 0 0, xs.getD 1 0, (tk s b).1, (tk s (tk s b).2).1, (tk s (tk s (tk s b).2).2).1, (tk s (tk s (tk s (tk s b).2).2).2).1⟩
def srE (s : ByteArray) (b : Int) : Int := (tk s (tk s (tk s (tk s b).2).2).2).2
theorem sr_back {x : H} {s : ByteArray} {xs : List Int} {b : Nat} (h : hOk x = true) (hs : showH x = s) (hv : vL s 0 2 = some (xs, b)) : srH s xs (b : Int) = x ∧ srE s (b : Int) = (s.size : Int) := by
  have h1 := (hOk_iff x).1 h
  have h2 := hOk_a h
  obtain ⟨e1, e2⟩ := vL_shown h hs
  rw [e1] at hv
  simp only [Option.some.injEq, Prod.mk.injEq] at hv
  obtain ⟨rfl, rfl⟩ := hv
  obtain ⟨t1, l1⟩ := tk_of e2 (by omega)
  obtain ⟨t2, l2⟩ := tk_of l1 (by omega)
  obtain ⟨t3, l3⟩ := tk_of l2 (by omega)
  rw [← List.append_nil (pl x.d)] at l3
  obtain ⟨t4, l4⟩ := tk_of l3 (by omega)
  have hb := (tk_bound s ((((vl 6 x.h).length + (vl 6 x.t).length + (pl x.a).length + (pl x.v).length + (pl x.n).length : Nat)) : Int)).1
  have hz := congrArg List.length l4
  rw [List.length_drop, len_toList] at hz
  simp only [List.length_nil] at hz
  unfold srH srE
  simp only [t1, t2, t3, t4]
  rw [t4] at hb
  simp only at hb
  exact ⟨rfl, by omega⟩
theorem sp_end {s : ByteArray} {xs : List Int} {b : Nat} (hv : vL s 0 2 = some (xs, b)) (h : ¬ srE s (b : Int) = (s.size : Int)) : rdH s = (zH, false) :=
  rd_no fun x hx hs => h (sr_back hx hs hv).2
theorem sp_other {s : ByteArray} {xs : List Int} {b : Nat} (hv : vL s 0 2 = some (xs, b)) (h : ¬ showH (srH s xs (b : Int)) = s) : rdH s = (zH, false) :=
  rd_no fun x hx hs => h (by rw [(sr_back hx hs hv).1]; exact hs)
theorem sp_good {s : ByteArray} {xs : List Int} {b : Nat} (hv : vL s 0 2 = some (xs, b)) (h : showH (srH s xs (b : Int)) = s) : rdH s = (srH s xs (b : Int), true) := by
  refine rd_yes ?_ h
  by_cases h1 : hOk (srH s xs (b : Int)) = true
  · exact h1
  · exfalso
    rw [showH_no (by simpa using h1)] at h
    have h0 := (vL_two hv).2.2
    have h2 := (rvAt_bound s 0).1
    rw [← h] at h0 h2
    have : (⟨#[]⟩ : ByteArray).size = 0 := rfl
    omega
end Go.Proofs.YtdpjlfgfacjfeaaDoor.Num
