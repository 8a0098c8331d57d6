/- Plain facts: changes one by one are changes put in order; of no Go text. No conditions. -/
import Derived.Test.YtaeokecodejpdaaMc
namespace Go.Proofs.Ytaeokecodejpdaa.Num
set_option linter.unusedVariables false
/-- One change over a row: what is out, whether it is put, whether it was there. -/
def step6 (x : V) (s : List V × Bool × Bool) (v : V) : List V × Bool × Bool :=
  let t : List V × Bool := bif !s.2.1 && decide (x.i ≤ v.i) then (s.1 ++ [x], true) else (s.1, s.2.1)
  if v.i = x.i then (t.1, t.2, true) else (t.1 ++ [v], t.2, s.2.2)
def st6 (x : V) (l : List V) : List V × Bool × Bool := l.foldl (step6 x) ([], decide (x.p = 0), false)
theorem st6_snoc (x : V) (l : List V) (v : V) : st6 x (l ++ [v]) = step6 x (st6 x l) v := by
  unfold st6; rw [List.foldl_append]; rfl
theorem st6_take (x : V) (l : List V) (k : Nat) (h : k < l.length) : st6 x (l.take (k + 1)) = step6 x (st6 x (l.take k)) l[k] := by
  rw [List.take_succ_eq_append_getElem h, st6_snoc]
/-- What comes of one change, and does it fit? -/
def c6 (l : List V) (x : V) : List V × Bool := (bif (st6 x l).2.1 then (st6 x l).1 else (st6 x l).1 ++ [x], (st6 x l).2.2 || decide (x.p ≠ 0))
def lowV (x : V) (l : List V) : List V := l.filter fun v => decide (v.i < x.i)
def highV (x : V) (l : List V) : List V := l.filter fun v => decide (x.i < v.i)
def anyGe (x : V) (l : List V) : Bool := l.any fun v => decide (x.i ≤ v.i)
def anyEq (x : V) (l : List V) : Bool := l.any fun v => decide (v.i = x.i)
theorem st6_eq (x : V) : ∀ l : List V, SI l → st6 x l = (lowV x l ++ (bif !decide (x.p = 0) && anyGe x l then [x] else []) ++ highV x l, decide (x.p = 0) || anyGe x l, anyEq x l) := by
  refine snoc_ind (fun _ => ?_) fun l v ih => fun hs => ?_
  · simp [st6, lowV, highV, anyGe, anyEq]
  · obtain ⟨h1, _, h3⟩ := List.pairwise_append.1 hs
    have hlt : ∀ u ∈ l, u.i < v.i := fun u hu => h3 u hu v (by simp)
    rw [st6_snoc, ih h1]
    have eG : anyGe x (l ++ [v]) = (anyGe x l || decide (x.i ≤ v.i)) := by simp [anyGe]
    have eE : anyEq x (l ++ [v]) = (anyEq x l || decide (v.i = x.i)) := by simp [anyEq]
    have eL : lowV x (l ++ [v]) = lowV x l ++ (if v.i < x.i then [v] else []) := by
      unfold lowV; rw [List.filter_append]; congr 1; by_cases h : v.i < x.i <;> simp [h]
    have eH : highV x (l ++ [v]) = highV x l ++ (if x.i < v.i then [v] else []) := by
      unfold highV; rw [List.filter_append]; congr 1; by_cases h : x.i < v.i <;> simp [h]
    rw [eG, eE, eL, eH]
    by_cases c1 : v.i < x.i
    · have g0 : anyGe x l = false := by
        rw [← Bool.not_eq_true]; intro h
        simp only [anyGe, List.any_eq_true, decide_eq_true_eq] at h
        obtain ⟨u, hu, hh⟩ := h
        have := hlt u hu; omega
      have h0 : highV x l = [] := by
        unfold highV; rw [List.filter_eq_nil_iff]; intro u hu; have := hlt u hu; simp; omega
      rw [g0, h0]
      unfold step6
      rw [show decide (x.i ≤ v.i) = false from decide_eq_false (by omega), if_neg (by omega), if_pos c1, if_neg (by omega), show decide (v.i = x.i) = false from decide_eq_false (by omega)]
      simp
    · have d1 : decide (x.i ≤ v.i) = true := decide_eq_true (by omega)
      rw [d1, if_neg c1, Bool.or_true, Bool.or_true, Bool.and_true, List.append_nil]
      unfold step6
      rw [d1, Bool.and_true]
      by_cases c2 : v.i = x.i
      · have g0 : anyGe x l = false := by
          rw [← Bool.not_eq_true]; intro h
          simp only [anyGe, List.any_eq_true, decide_eq_true_eq] at h
          obtain ⟨u, hu, hh⟩ := h
          have := hlt u hu; omega
        have h0 : highV x l = [] := by
          unfold highV; rw [List.filter_eq_nil_iff]; intro u hu; have := hlt u hu; simp; omega
        rw [g0, h0, if_pos c2, if_neg (by omega), decide_eq_true c2]
        cases decide (x.p = 0) <;> simp
      · rw [if_neg c2, if_pos (by omega), decide_eq_false c2]
        cases hp : decide (x.p = 0) <;> cases hg : anyGe x l <;> simp
        · unfold anyGe at hg
          unfold highV
          rw [List.filter_eq_nil_iff.2 (fun u hu => ?_)]
          · simp
          · have := List.any_eq_false.1 hg u hu
            simp at this ⊢; omega
theorem high_none {x : V} {l : List V} (hg : anyGe x l = false) : highV x l = [] := by
  unfold highV
  rw [List.filter_eq_nil_iff]
  intro u hu
  have := List.any_eq_false.1 hg u hu
  simp at this ⊢; omega
theorem c6_eq (x : V) (l : List V) (h : SI l) : c6 l x = (lowV x l ++ (bif decide (x.p = 0) then [] else [x]) ++ highV x l, anyEq x l || decide (x.p ≠ 0)) := by
  unfold c6
  rw [st6_eq x l h]
  congr 1
  cases hp : decide (x.p = 0) with
  | true => simp
  | false =>
    cases hg : anyGe x l with
    | true => simp
    | false => rw [high_none hg]; simp
theorem get_lo (x : V) (l : List V) (c : Int) (h : c ≠ x.i) : (get (lowV x l) c).or (get (highV x l) c) = get l c := by
  induction l with
  | nil => rfl
  | cons v l ih =>
    unfold lowV highV at ih ⊢
    simp only [List.filter_cons]
    rw [get_cons]
    by_cases h1 : v.i < x.i
    · rw [decide_eq_true h1, decide_eq_false (show ¬ x.i < v.i by omega)]
      simp only [if_true, Bool.false_eq_true, if_false]
      rw [get_cons]
      by_cases hc : v.i = c
      · rw [if_pos hc, if_pos hc]; rfl
      · rw [if_neg hc, if_neg hc]; exact ih
    · rw [decide_eq_false h1]
      by_cases h2 : x.i < v.i
      · rw [decide_eq_true h2]
        simp only [if_true, Bool.false_eq_true, if_false]
        rw [get_cons]
        by_cases hc : v.i = c
        · rw [if_pos hc, if_pos hc]
          rw [get_none (fun u hu => ?_)]
          · rfl
          · have := (List.mem_filter.1 hu).2
            simp at this; omega
        · rw [if_neg hc, if_neg hc]; exact ih
      · rw [decide_eq_false h2, if_neg (show ¬ v.i = c by omega)]
        simp only [Bool.false_eq_true, if_false]
        exact ih
theorem c6_inv (x : V) (l : List V) (h : SI l) : SI (c6 l x).1 ∧ (∀ c, get (c6 l x).1 c = if c = x.i then (if x.p = 0 then none else some x.p) else get l c) ∧ ((c6 l x).2 = false ↔ x.p = 0 ∧ get l x.i = none) := by
  rw [c6_eq x l h]
  have hlo : ∀ u ∈ lowV x l, u.i < x.i := fun u hu => by have := (List.mem_filter.1 hu).2; simpa using this
  have hhi : ∀ u ∈ highV x l, x.i < u.i := fun u hu => by have := (List.mem_filter.1 hu).2; simpa using this
  have sl : SI (lowV x l) := List.Pairwise.filter _ h
  have sh : SI (highV x l) := List.Pairwise.filter _ h
  refine ⟨?_, fun c => ?_, ?_⟩
  · show SI (lowV x l ++ (bif decide (x.p = 0) then [] else [x]) ++ highV x l)
    refine List.pairwise_append.2 ⟨List.pairwise_append.2 ⟨sl, by cases decide (x.p = 0) <;> simp, fun u hu v hv => ?_⟩, sh, fun u hu v hv => ?_⟩
    · cases hp : decide (x.p = 0) <;> rw [hp] at hv <;> simp at hv
      subst hv; exact hlo u hu
    · rcases List.mem_append.1 hu with hu | hu
      · have := hlo u hu; have := hhi v hv; omega
      · cases hp : decide (x.p = 0) <;> rw [hp] at hu <;> simp at hu
        subst hu; exact hhi v hv
  · show get (lowV x l ++ (bif decide (x.p = 0) then [] else [x]) ++ highV x l) c = _
    rw [get_app, get_app]
    by_cases hc : c = x.i
    · rw [if_pos hc, get_none (fun u hu => by have := hlo u hu; omega), get_none (l := highV x l) (fun u hu => by have := hhi u hu; omega)]
      by_cases hp : x.p = 0
      · rw [if_pos hp, decide_eq_true hp]; rfl
      · rw [if_neg hp, decide_eq_false hp, cond_false, get_one, if_pos hc.symm]; rfl
    · rw [if_neg hc, ← get_lo x l c hc]
      have : get (bif decide (x.p = 0) then [] else [x]) c = none := by
        cases decide (x.p = 0)
        · rw [cond_false, get_one, if_neg (fun e => hc e.symm)]
        · rfl
      rw [this]
      cases get (lowV x l) c <;> rfl
  · show (anyEq x l || decide (x.p ≠ 0)) = false ↔ _
    rw [Bool.or_eq_false_iff]
    constructor
    · intro ⟨h1, h2⟩
      refine ⟨by simpa using h2, get_none fun u hu e => ?_⟩
      have := List.any_eq_false.1 h1 u hu
      simp at this; exact this e
    · intro ⟨h1, h2⟩
      refine ⟨?_, by simpa using h1⟩
      rw [← Bool.not_eq_true]
      intro ha
      simp only [anyEq, List.any_eq_true, decide_eq_true_eq] at ha
      obtain ⟨u, hu, e⟩ := ha
      have : ∀ m : List V, u ∈ m → get m x.i ≠ none := by
        intro m
        induction m with
        | nil => intro hm; cases hm
        | cons z m ih =>
          intro hm
          rw [get_cons]
          by_cases hz : z.i = x.i
          · rw [if_pos hz]; simp
          · rw [if_neg hz]
            rcases List.mem_cons.1 hm with rfl | hm
            · exact absurd e hz
            · exact ih hm
      exact this l hu h2
/-- All changes, one by one. -/
def c6o (s : Option (List V)) (x : V) : Option (List V) := s.bind fun a => bif (c6 a x).2 then some (c6 a x).1 else none
def spf (l ch : List V) : Option (List V) := ch.foldl c6o (some l)
theorem spf_snoc (l ch : List V) (x : V) : spf l (ch ++ [x]) = c6o (spf l ch) x := by unfold spf; rw [List.foldl_append]; rfl
theorem spf_none (l d e : List V) (h : spf l d = none) : spf l (d ++ e) = none := by
  revert e
  refine snoc_ind (by rw [List.append_nil]; exact h) fun e v ih => ?_
  rw [← List.append_assoc, spf_snoc, ih]; rfl
theorem si_ok {l : List V} (h : vOk l = true) : SI l := by
  unfold SI
  rw [List.pairwise_iff_getElem]
  intro i j hi hj hij
  have : ∀ d, ∀ i j (hi : i < l.length) (hj : j < l.length), i < j → j = i + d + 1 → l[i].i < l[j].i := by
    intro d
    induction d with
    | zero => intro i j hi hj hij e; have := rise_of_ok h (k := i) (by omega); subst e; exact this
    | succ d ih =>
      intro i j hi hj hij e
      have a := ih i (i + d + 1) hi (by omega) (by omega) rfl
      have b := rise_of_ok h (k := i + d + 1) (by omega)
      subst e
      exact Int.lt_trans a b
  exact this (j - i - 1) i j hi hj hij (by omega)
theorem kf_start : ∀ l : List V, SI l → (∀ v ∈ l, v.p ≠ 0) → ∀ c, kf c l = some (get l c) := by
  refine snoc_ind (fun _ _ c => rfl) fun l v ih hs hp c => ?_
  obtain ⟨h1, _, h3⟩ := List.pairwise_append.1 hs
  rw [kf_snoc, ih h1 (fun u hu => hp u (by simp [hu])), get_app, get_one]
  by_cases hc : v.i = c
  · rw [if_pos hc, if_pos hc, get_none (fun u hu => by have := h3 u hu v (by simp); omega)]
    have := hp v (by simp)
    simp [kstep, this]
  · rw [if_neg hc, if_neg hc]
    cases get l c <;> rfl
theorem spf_inv {l : List V} (h : vOk l = true) : ∀ ch : List V, (spf l ch = none → ∃ c, kf c (l ++ ch) = none) ∧ ∀ out, spf l ch = some out → SI out ∧ ∀ c, kf c (l ++ ch) = some (get out c) := by
  refine snoc_ind ?_ fun ch x ih => ?_
  · refine ⟨fun h => (by cases h), fun out ho => ?_⟩
    have : out = l := (Option.some.inj ho).symm
    subst this
    rw [List.append_nil]
    exact ⟨si_ok h, kf_start out (si_ok h) (fun v hv => by have := mem_ok h v hv; omega)⟩
  · obtain ⟨i1, i2⟩ := ih
    rw [spf_snoc, ← List.append_assoc]
    cases hs : spf l ch with
    | none =>
      obtain ⟨c, hc⟩ := i1 hs
      refine ⟨fun _ => ⟨c, ?_⟩, fun out ho => by cases ho⟩
      rw [kf_snoc, hc]
      split <;> rfl
    | some a =>
      obtain ⟨s1, s2⟩ := i2 a hs
      obtain ⟨t1, t2, t3⟩ := c6_inv x a s1
      have ec : c6o (some a) x = bif (c6 a x).2 then some (c6 a x).1 else none := rfl
      rw [ec]
      cases hb : (c6 a x).2 with
      | false =>
        obtain ⟨p1, p2⟩ := t3.1 hb
        refine ⟨fun _ => ⟨x.i, ?_⟩, fun out ho => by cases ho⟩
        rw [kf_snoc, if_pos rfl, s2, p2]
        simp [kstep, p1]
      | true =>
        refine ⟨fun ho => (by cases ho), fun out ho => ?_⟩
        have : out = (c6 a x).1 := (Option.some.inj ho).symm
        subst this
        refine ⟨t1, fun c => ?_⟩
        rw [kf_snoc, s2, t2]
        by_cases hc : x.i = c
        · rw [if_pos hc, if_pos hc.symm]
          by_cases hp : x.p = 0
          · rw [if_pos hp]
            have hg : get a c ≠ none := fun e => by
              have := t3.2 ⟨hp, by rw [hc]; exact e⟩
              rw [hb] at this; cases this
            simp [kstep, hp, hg]
          · rw [if_neg hp]; simp [kstep, hp]
        · rw [if_neg hc, if_neg (fun e => hc e.symm)]
/-- The changes in order come to the same as one by one. -/
theorem same_change {l ch d : List V} (h : vOk l = true) (hs : Srt d) (hst : Stb (l ++ ch) d) : vlf d = spf l ch := by
  obtain ⟨a1, a2⟩ := vl_inv d hs
  obtain ⟨b1, b2⟩ := spf_inv h ch
  cases hv : vlf d with
  | none =>
    obtain ⟨c, hc⟩ := a1 hv
    cases ho : spf l ch with
    | none => rfl
    | some out =>
      have := (b2 out ho).2 c
      rw [kf_stb hst, hc] at this; cases this
  | some acc =>
    obtain ⟨s1, _, s3⟩ := a2 acc hv
    cases ho : spf l ch with
    | none =>
      obtain ⟨c, hc⟩ := b1 ho
      have := s3 c
      rw [← kf_stb hst, hc] at this; cases this
    | some out =>
      obtain ⟨t1, t2⟩ := b2 out ho
      rw [SI.ext s1 t1 fun c => ?_]
      have := s3 c
      rw [← kf_stb hst, t2 c] at this
      exact (Option.some.inj this).symm
/-- What ChangeVals answers. -/
def chV (l ch : List V) : List V × Bool :=
  bif vOk l then (match spf l ch with | none => (l, false) | some out => bif vOk out then (out, true) else (l, false)) else (l, false)
theorem chV_no {l ch : List V} (h : vOk l = false) : chV l ch = (l, false) := by unfold chV; rw [h]; rfl
theorem chV_none {l ch : List V} (h : vOk l = true) (h1 : spf l ch = none) : chV l ch = (l, false) := by unfold chV; rw [h, h1]; rfl
theorem chV_bad {l ch out : List V} (h : vOk l = true) (h1 : spf l ch = some out) (h2 : vOk out = false) : chV l ch = (l, false) := by unfold chV; rw [h, h1]; simp [h2]
theorem chV_yes {l ch out : List V} (h : vOk l = true) (h1 : spf l ch = some out) (h2 : vOk out = true) : chV l ch = (out, true) := by unfold chV; rw [h, h1]; simp [h2]
end Go.Proofs.Ytaeokecodejpdaa.Num
