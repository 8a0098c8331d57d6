/- Plain facts on commits: their texts, what is read from a text; of no Go text. No conditions. A block of cells as one fact: its cells, a store into it, what keeps it. Conditions: none of ours. Signatures in cells, two to each; a commit as a value and as cells. Conditions: none of ours. What l9Vote, isShownSig and isShownCommit answer; old memory stays. Conditions: rows that a machine can hold. -/
import Derived.Test.YtajfmjgaaapjeaaGreatDoorG4
namespace Go.Proofs.YtajfmjgaaapjeaaGreatDoor.Num
set_option linter.unusedVariables false
/-- A signature: whose, and its bytes. -/
structure Sg where
  v : Int
  s : ByteArray
/-- A commit: height, round, id, signatures. -/
structure Ct where
  h : Int
  r : Int
  i : ByteArray
  l : List Sg
def zC : Ct := ⟨0, 0, ⟨#[]⟩, []⟩
def hdB (h r : Int) (i : ByteArray) : Bool := inIs h 1 1000000 && (inIs r 0 1000 && idB i)
theorem vo_hd (h r : Int) (i : ByteArray) : voB ⟨h, r, 2, i, 1⟩ = hdB h r i := by
  unfold voB hdB
  have e1 : inIs 2 1 2 = true := by decide
  have e2 : inIs 1 1 99 = true := by decide
  simp only [e1, e2, Bool.true_and, Bool.and_true]
theorem hdB_iff (h r : Int) (i : ByteArray) : hdB h r i = true ↔ (1 ≤ h ∧ h ≤ 1000000) ∧ (0 ≤ r ∧ r ≤ 1000) ∧ (i.size = 0 ∨ i.size = 8) := by
  simp [hdB, in_iff, idB]
def sgB (x : Sg) : Bool := inIs x.v 1 99 && decide (x.s.size ≤ 8)
theorem sgB_iff (x : Sg) : sgB x = true ↔ (1 ≤ x.v ∧ x.v ≤ 99) ∧ x.s.size ≤ 8 := by simp [sgB, in_iff]
def cOk (x : Ct) : Bool := hdB x.h x.r x.i && (decide (x.l.length ≤ 12) && x.l.all sgB)
theorem cOk_iff (x : Ct) : cOk x = true ↔ hdB x.h x.r x.i = true ∧ x.l.length ≤ 12 ∧ ∀ y ∈ x.l, sgB y = true := by
  simp [cOk]
theorem cOk_no {x : Ct} (h : ¬ (hdB x.h x.r x.i = true ∧ x.l.length ≤ 12 ∧ ∀ y ∈ x.l, sgB y = true)) : cOk x = false := by
  rw [← Bool.not_eq_true, cOk_iff]; exact h
/-- Signatures behind what lies there. -/
def shG (a : ByteArray) : List Sg → ByteArray
  | [] => a
  | x :: l => shG (a ++ var x.v ++ pc x.s) l
theorem shG_snoc (l : List Sg) (x : Sg) : ∀ a : ByteArray, shG a (l ++ [x]) = shG a l ++ var x.v ++ pc x.s := by
  induction l with
  | nil => intro a; rfl
  | cons y l ih => intro a; exact ih _
theorem shG_size (l : List Sg) (hl : ∀ y ∈ l, y.s.size ≤ 8) : ∀ a : ByteArray, (shG a l).size ≤ a.size + 22 * l.length := by
  induction l with
  | nil => intro a; show a.size ≤ _; omega
  | cons y l ih =>
    intro a
    have h1 := ih (fun z hz => hl z (List.mem_cons_of_mem _ hz)) (a ++ var y.v ++ pc y.s)
    have h2 := var_size y.v
    have h3 := pc_size y.s
    have h4 := hl y (List.mem_cons_self ..)
    simp only [ByteArray.size_append] at h1
    show (shG (a ++ var y.v ++ pc y.s) l).size ≤ _
    rw [List.length_cons]; omega
def hdT (x : Ct) : ByteArray := var x.h ++ var x.r ++ pc x.i ++ var (x.l.length : Int)
theorem hdT_size (x : Ct) (h : x.i.size ≤ 8) : (hdT x).size ≤ 36 := by
  have := var_size x.h
  have := var_size x.r
  have := pc_size x.i
  have := var_size (x.l.length : Int)
  unfold hdT
  simp only [ByteArray.size_append]; omega
def shC (x : Ct) : ByteArray := shG (hdT x) x.l
def showC (x : Ct) : ByteArray := bif cOk x then shC x else ⟨#[]⟩
theorem showC_no {x : Ct} (h : cOk x = false) : showC x = ⟨#[]⟩ := by unfold showC; rw [h]; rfl
theorem showC_yes {x : Ct} (h : cOk x = true) : showC x = shC x := by unfold showC; rw [h]; rfl
theorem cOk_i {x : Ct} (h : cOk x = true) : x.i.size ≤ 8 := by
  have := ((hdB_iff _ _ _).1 ((cOk_iff x).1 h).1).2.2; omega
theorem cOk_s {x : Ct} (h : cOk x = true) : ∀ y ∈ x.l, y.s.size ≤ 8 := fun y hy => ((sgB_iff y).1 (((cOk_iff x).1 h).2.2 y hy)).2
theorem showC_size (x : Ct) : (showC x).size ≤ 300 := by
  cases h : cOk x with
  | false => rw [showC_no h]; show 0 ≤ 300; omega
  | true =>
    have h1 := hdT_size x (cOk_i h)
    have h2 := shG_size x.l (cOk_s h) (hdT x)
    have h3 := ((cOk_iff x).1 h).2.1
    rw [showC_yes h]; unfold shC; omega
/-- The text as a list. -/
def glL : List Sg → List UInt8
  | [] => []
  | x :: l => vl 6 x.v ++ (pl x.s ++ glL l)
theorem shG_list (l : List Sg) (hl : ∀ y ∈ l, sgB y = true) : ∀ a : ByteArray, (shG a l).data.toList = a.data.toList ++ glL l := by
  induction l with
  | nil => intro a; show a.data.toList = a.data.toList ++ []; simp
  | cons y l ih =>
    intro a
    have h1 := (sgB_iff y).1 (hl y (List.mem_cons_self ..))
    show (shG (a ++ var y.v ++ pc y.s) l).data.toList = _
    rw [ih (fun z hz => hl z (List.mem_cons_of_mem _ hz))]
    simp only [list_append]
    rw [var_list _ (by omega) (by omega), pc_list _ (by omega)]
    simp only [glL, List.append_assoc]
def shK (x : Ct) : List UInt8 := vl 6 x.h ++ (vl 6 x.r ++ (pl x.i ++ (vl 6 (x.l.length : Int) ++ glL x.l)))
theorem shC_list {x : Ct} (h : cOk x = true) : (shC x).data.toList = shK x := by
  have h1 := (cOk_iff x).1 h
  have h2 := (hdB_iff _ _ _).1 h1.1
  have h3 := cOk_i h
  unfold shC
  rw [shG_list _ h1.2.2]
  unfold hdT shK
  simp only [list_append]
  rw [var_list _ (by omega) (by omega), var_list _ (by omega) (by omega), pc_list _ (by omega), var_list _ (by omega) (by omega)]
  simp only [List.append_assoc]
/-- What is taken off a text, one behind the other. -/
def irG : Nat → ByteArray → List Sg
  | 0, _ => []
  | k + 1, s => ⟨nI s, zP (nR s)⟩ :: irG k (zR (nR s))
theorem irG_length : ∀ (k : Nat) (s : ByteArray), (irG k s).length = k
  | 0, _ => rfl
  | k + 1, s => by show (irG k _).length + 1 = k + 1; rw [irG_length k]
def irT (s : ByteArray) : ByteArray := zR (nR (nR s))
def irC (s : ByteArray) : Ct := ⟨nI s, nI (nR s), zP (nR (nR s)), irG (nI (irT s)).toNat (nR (irT s))⟩
theorem irG_back : ∀ (l : List Sg) (s : ByteArray), (∀ y ∈ l, sgB y = true) → s.data.toList = glL l → irG l.length s = l
  | [], s, _, _ => rfl
  | y :: l, s, hl, h => by
    have h1 := (sgB_iff y).1 (hl y (List.mem_cons_self ..))
    simp only [glL] at h
    obtain ⟨a1, l1⟩ := n_of h (by omega) (by omega)
    obtain ⟨a2, l2⟩ := z_of l1 (by omega)
    show (⟨nI s, zP (nR s)⟩ : Sg) :: irG l.length (zR (nR s)) = y :: l
    rw [a1, a2, irG_back l _ (fun z hz => hl z (List.mem_cons_of_mem _ hz)) l2]
theorem irC_back {x : Ct} {s : ByteArray} (h : cOk x = true) (hs : showC x = s) : irC s = x ∧ nI (irT s) = (x.l.length : Int) := by
  have h1 := (cOk_iff x).1 h
  have h2 := (hdB_iff _ _ _).1 h1.1
  have h3 := cOk_i h
  have hl : s.data.toList = shK x := by rw [← hs, showC_yes h, shC_list h]
  unfold shK at hl
  obtain ⟨a1, l1⟩ := n_of hl (by omega) (by omega)
  obtain ⟨a2, l2⟩ := n_of l1 (by omega) (by omega)
  obtain ⟨a3, l3⟩ := z_of l2 (by omega)
  obtain ⟨a4, l4⟩ := n_of l3 (by omega) (by omega)
  have a4' : nI (irT s) = (x.l.length : Int) := a4
  refine ⟨?_, a4'⟩
  have hg := irG_back x.l (nR (irT s)) h1.2.2 l4
  unfold irC
  rw [a1, a2, a3, a4', Int.toNat_natCast, hg]
/-- What is read from a text. -/
def rdC (s : ByteArray) : Ct × Bool := bif (decide (nI (irT s) ≤ 12) && cOk (irC s)) && decide (showC (irC s) = s) then (irC s, true) else (zC, false)
theorem rdC_many {s : ByteArray} (h : ¬ nI (irT s) ≤ 12) : rdC s = (zC, false) := by unfold rdC; rw [decide_eq_false h]; rfl
theorem rdC_bad {s : ByteArray} (h : cOk (irC s) = false) : rdC s = (zC, false) := by unfold rdC; rw [h, Bool.and_false]; rfl
theorem rdC_other {s : ByteArray} (h : ¬ showC (irC s) = s) : rdC s = (zC, false) := by
  unfold rdC; rw [decide_eq_false h, Bool.and_false]; rfl
theorem rdC_good {s : ByteArray} (h0 : nI (irT s) ≤ 12) (h : cOk (irC s) = true) (h1 : showC (irC s) = s) : rdC s = (irC s, true) := by
  unfold rdC; rw [h, decide_eq_true h1, decide_eq_true h0]; rfl
theorem rdC_yes {x : Ct} {s : ByteArray} (h : cOk x = true) (hs : showC x = s) : rdC s = (x, true) := by
  obtain ⟨e, e2⟩ := irC_back h hs
  have := ((cOk_iff x).1 h).2.1
  rw [rdC_good (by rw [e2]; omega) (by rw [e]; exact h) (by rw [e]; exact hs), e]
theorem rdC_no {s : ByteArray} (h : ∀ x, cOk x = true → showC x = s → False) : rdC s = (zC, false) := by
  by_cases h1 : cOk (irC s) = true
  · exact rdC_other fun h2 => h _ h1 h2
  · exact rdC_bad (by simpa using h1)
theorem zC_bad : cOk zC = false := by rfl
/-- What is read is right and has that text, or it is nothing. -/
theorem rdC_cases (s : ByteArray) : (∃ x, rdC s = (x, true) ∧ cOk x = true ∧ showC x = s) ∨ (rdC s = (zC, false) ∧ ∀ x, cOk x = true → ¬ showC x = s) := by
  by_cases h : ∃ x, cOk x = true ∧ showC x = s
  · obtain ⟨x, h1, h2⟩ := h
    exact .inl ⟨x, rdC_yes h1 h2, h1, h2⟩
  · have h' : ∀ x, cOk x = true → showC x = s → False := fun x h1 h2 => h ⟨x, h1, h2⟩
    exact .inr ⟨rdC_no h', h'⟩
/-- Signatures read by places: so many, and where they end; none where one is missing. -/
def spG (s : ByteArray) (a : Nat) : Nat → Option (List Sg × Nat)
  | 0 => some ([], a)
  | n + 1 => match spG s a n with
    | none => none
    | some (xs, b) => if (rvAt s b).2 = 0 then none else if (tk s ((b + (rvAt s b).2 : Nat) : Int)).2 < 0 then none else some (xs ++ [⟨(rvAt s b).1, (tk s ((b + (rvAt s b).2 : Nat) : Int)).1⟩], (tk s ((b + (rvAt s b).2 : Nat) : Int)).2.toNat)
theorem spG_zero (s : ByteArray) (a : Nat) : spG s a 0 = some ([], a) := rfl
theorem spG_no1 {s : ByteArray} {a n b : Nat} {xs : List Sg} (h : spG s a n = some (xs, b)) (h0 : (rvAt s b).2 = 0) : spG s a (n + 1) = none := by
  simp only [spG, h]; rw [if_pos h0]
theorem spG_no2 {s : ByteArray} {a n b : Nat} {xs : List Sg} (h : spG s a n = some (xs, b)) (h1 : (tk s ((b + (rvAt s b).2 : Nat) : Int)).2 < 0) : spG s a (n + 1) = none := by
  simp only [spG, h]; split
  · rfl
  · first | rfl | (rw [if_pos h1])
theorem spG_go {s : ByteArray} {a n b : Nat} {xs : List Sg} (h : spG s a n = some (xs, b)) (h0 : 0 < (rvAt s b).2) (h1 : 0 ≤ (tk s ((b + (rvAt s b).2 : Nat) : Int)).2) :
    spG s a (n + 1) = some (xs ++ [⟨(rvAt s b).1, (tk s ((b + (rvAt s b).2 : Nat) : Int)).1⟩], (tk s ((b + (rvAt s b).2 : Nat) : Int)).2.toNat) := by
  simp only [spG, h]; rw [if_neg (by omega), if_neg (by omega)]
theorem spG_none {s : ByteArray} {a n : Nat} (h : spG s a n = none) : ∀ k, spG s a (n + k) = none
  | 0 => h
  | k + 1 => by
    have := spG_none h k
    show spG s a (n + k + 1) = none
    simp only [spG, this]
theorem spG_len {s : ByteArray} {a : Nat} (ha : a ≤ s.size) : ∀ {n b : Nat} {xs : List Sg}, spG s a n = some (xs, b) → xs.length = n ∧ b ≤ s.size ∧ ∀ y ∈ xs, 0 ≤ y.v ∧ y.v ≤ 562949953421311 ∧ y.s.size ≤ s.size
  | 0, b, xs, h => by
    simp [spG] at h
    obtain ⟨rfl, rfl⟩ := h
    exact ⟨rfl, ha, fun y hy => by cases hy⟩
  | n + 1, b, xs, h => by
    simp only [spG] at h
    split at h
    · cases h
    · rename_i ys c hc
      obtain ⟨h1, h2, h3⟩ := spG_len ha hc
      split at h
      · cases h
      · split at h
        · cases h
        · simp only [Option.some.injEq, Prod.mk.injEq] at h
          obtain ⟨rfl, rfl⟩ := h
          have k1 := rvAt_bound s c
          have k2 := tk_bound s ((c + (rvAt s c).2 : Nat) : Int)
          refine ⟨by simp [h1], by omega, fun y hy => ?_⟩
          rcases List.mem_append.1 hy with hy | hy
          · exact h3 y hy
          · rw [List.mem_singleton] at hy
            subst hy
            exact ⟨k1.2.1, k1.2.2.1, k2.2⟩
theorem spG_of : ∀ (l m : List Sg) (s : ByteArray) (a : Nat) (b : Nat), (∀ y ∈ l, sgB y = true) → spG s a m.length = some (m, b) → b ≤ s.size → s.data.toList.drop b = glL l → spG s a (m.length + l.length) = some (m ++ l, s.size)
  | [], m, s, a, b, _, h, hb, hd => by
    have hz := congrArg List.length hd
    rw [List.length_drop, len_toList] at hz
    simp only [glL, List.length_nil] at hz
    rw [List.append_nil, List.length_nil, Nat.add_zero, h, show b = s.size from by omega]
  | y :: l, m, s, a, b, hl, h, hb, hd => by
    have h1 := (sgB_iff y).1 (hl y (List.mem_cons_self ..))
    simp only [glL] at hd
    obtain ⟨a1, l1, p1⟩ := rvAt_of hd (by omega) (by omega)
    obtain ⟨t1, l2⟩ := tk_of l1 (by omega)
    have hg := spG_go h (by rw [a1]; exact p1) (by rw [a1]; simp only; rw [t1]; simp only; omega)
    rw [a1] at hg
    simp only at hg
    rw [t1] at hg
    simp only [Int.toNat_natCast] at hg
    have hb' := (tk_bound s ((b + (vl 6 y.v).length : Nat) : Int)).1
    rw [t1] at hb'
    simp only at hb'
    have := spG_of l (m ++ [y]) s a _ (fun z hz => hl z (List.mem_cons_of_mem _ hz)) (by rw [List.length_append]; exact hg) (by omega) l2
    rw [List.length_append, List.append_assoc] at this
    rw [List.length_cons, show m.length + (l.length + 1) = m.length + [y].length + l.length from by simp; omega]
    exact this
theorem vL_one_go {s : ByteArray} {a k : Nat} {n : Int} (h : rvAt s a = (n, k)) (h0 : 0 < k) : vL s a 1 = some ([n], a + k) := by
  have e := vL_go (s := s) (a := a) (n := 0) (b := a) (xs := []) rfl (by rw [h]; exact h0)
  rw [h] at e; exact e
/-- What the specification reads of a text that is one. -/
theorem spC_shown {x : Ct} {s : ByteArray} (h : cOk x = true) (hs : showC x = s) : ∃ b b2 b3 : Nat, vL s 0 2 = some ([x.h, x.r], b) ∧ tk s (b : Int) = (x.i, (b2 : Int)) ∧ b2 ≤ s.size ∧ vL s b2 1 = some ([(x.l.length : Int)], b3) ∧ spG s b3 x.l.length = some (x.l, s.size) := by
  have h1 := (cOk_iff x).1 h
  have h2 := (hdB_iff _ _ _).1 h1.1
  have h3 := cOk_i h
  have hl : s.data.toList.drop 0 = shK x := by rw [List.drop_zero, ← hs, showC_yes h, shC_list h]
  unfold shK at hl
  obtain ⟨a1, l1, p1⟩ := rvAt_of hl (by omega) (by omega)
  obtain ⟨a2, l2, p2⟩ := rvAt_of l1 (by omega) (by omega)
  rw [Nat.zero_add] at a2 l2
  have e1 : vL s 0 1 = some ([] ++ [(rvAt s 0).1], 0 + (rvAt s 0).2) := vL_go (s := s) (a := 0) (n := 0) (b := 0) (xs := []) rfl (by rw [a1]; exact p1)
  rw [a1, Nat.zero_add] at e1
  have e2 := vL_go e1 (by show 0 < (rvAt s (vl 6 x.h).length).2; rw [a2]; exact p2)
  simp only [a2] at e2
  obtain ⟨t1, l3⟩ := tk_of l2 (by omega)
  obtain ⟨a4, l4, p4⟩ := rvAt_of l3 (by omega) (by omega)
  have hb := (tk_bound s (((vl 6 x.h).length + (vl 6 x.r).length : Nat) : Int)).1
  rw [t1] at hb
  simp only at hb
  have e4 : vL s ((vl 6 x.h).length + (vl 6 x.r).length + (pl x.i).length) 1 = some ([(x.l.length : Int)], (vl 6 x.h).length + (vl 6 x.r).length + (pl x.i).length + (vl 6 (x.l.length : Int)).length) := vL_one_go a4 p4
  have hb3 := (vL_len (by omega) e4).2
  have hg := spG_of x.l [] s _ _ h1.2.2 (spG_zero _ _) hb3 l4
  rw [List.length_nil, Nat.zero_add, List.nil_append] at hg
  exact ⟨_, _, _, e2, t1, by omega, e4, hg⟩
theorem spC_none1 {s : ByteArray} (h : vL s 0 2 = none) : rdC s = (zC, false) := rdC_no fun x hx hs => by
  obtain ⟨b, b2, b3, e1, _⟩ := spC_shown hx hs
  rw [h] at e1; cases e1
theorem spC_none2 {s : ByteArray} {xs : List Int} {b : Nat} (h : vL s 0 2 = some (xs, b)) (h2 : (tk s (b : Int)).2 < 0) : rdC s = (zC, false) := rdC_no fun x hx hs => by
  obtain ⟨c, b2, b3, e1, e2, _⟩ := spC_shown hx hs
  rw [h] at e1
  simp only [Option.some.injEq, Prod.mk.injEq] at e1
  obtain ⟨rfl, rfl⟩ := e1
  rw [e2] at h2
  simp only at h2; omega
theorem spC_none3 {s : ByteArray} {xs : List Int} {b b2 : Nat} (h : vL s 0 2 = some (xs, b)) (h2 : (tk s (b : Int)).2 = (b2 : Int)) (h3 : vL s b2 1 = none) : rdC s = (zC, false) := rdC_no fun x hx hs => by
  obtain ⟨c, c2, b3, e1, e2, _, e3, _⟩ := spC_shown hx hs
  rw [h] at e1
  simp only [Option.some.injEq, Prod.mk.injEq] at e1
  obtain ⟨rfl, rfl⟩ := e1
  rw [e2] at h2
  simp only at h2
  obtain rfl : c2 = b2 := by omega
  rw [h3] at e3; cases e3
theorem spC_at {x : Ct} {s : ByteArray} {X0 X1 n : Int} {b b2 b3 : Nat} (hx : cOk x = true) (hs : showC x = s) (h : vL s 0 2 = some ([X0, X1], b)) (h2 : (tk s (b : Int)).2 = (b2 : Int)) (h3 : vL s b2 1 = some ([n], b3)) :
    x.h = X0 ∧ x.r = X1 ∧ x.i = (tk s (b : Int)).1 ∧ n = (x.l.length : Int) ∧ spG s b3 x.l.length = some (x.l, s.size) := by
  obtain ⟨c, c2, c3, e1, e2, _, e3, e4⟩ := spC_shown hx hs
  rw [h] at e1
  simp only [Option.some.injEq, Prod.mk.injEq, List.cons.injEq, and_true] at e1
  obtain ⟨⟨rfl, rfl⟩, rfl⟩ := e1
  rw [e2] at h2
  simp only at h2
  obtain rfl : c2 = b2 := by omega
  rw [h3] at e3
  simp only [Option.some.injEq, Prod.mk.injEq, List.cons.injEq, and_true] at e3
  obtain ⟨rfl, rfl⟩ := e3
  exact ⟨rfl, rfl, by rw [e2], rfl, e4⟩
theorem spC_many {s : ByteArray} {X0 X1 n : Int} {b b2 b3 : Nat} (h : vL s 0 2 = some ([X0, X1], b)) (h2 : (tk s (b : Int)).2 = (b2 : Int)) (h3 : vL s b2 1 = some ([n], b3)) (h4 : 12 < n) : rdC s = (zC, false) := rdC_no fun x hx hs => by
  obtain ⟨_, _, _, e, _⟩ := spC_at hx hs h h2 h3
  have := ((cOk_iff x).1 hx).2.1
  omega
theorem spC_less {s : ByteArray} {X0 X1 : Int} {n b b2 b3 : Nat} (h : vL s 0 2 = some ([X0, X1], b)) (h2 : (tk s (b : Int)).2 = (b2 : Int)) (h3 : vL s b2 1 = some ([(n : Int)], b3)) (h4 : spG s b3 n = none) : rdC s = (zC, false) := rdC_no fun x hx hs => by
  obtain ⟨_, _, _, e, e4⟩ := spC_at hx hs h h2 h3
  obtain rfl : n = x.l.length := by omega
  rw [h4] at e4; cases e4
theorem spC_other {s : ByteArray} {X0 X1 : Int} {n b b2 b3 b4 : Nat} {l : List Sg} (h : vL s 0 2 = some ([X0, X1], b)) (h2 : (tk s (b : Int)).2 = (b2 : Int)) (h3 : vL s b2 1 = some ([(n : Int)], b3)) (h4 : spG s b3 n = some (l, b4)) (h5 : ¬ showC ⟨X0, X1, (tk s (b : Int)).1, l⟩ = s) : rdC s = (zC, false) := rdC_no fun x hx hs => by
  obtain ⟨e1, e2, e3, e, e4⟩ := spC_at hx hs h h2 h3
  obtain rfl : n = x.l.length := by omega
  rw [h4] at e4
  simp only [Option.some.injEq, Prod.mk.injEq] at e4
  obtain ⟨rfl, _⟩ := e4
  apply h5
  obtain ⟨x0, x1, x2, x3⟩ := x
  simp only at e1 e2 e3
  subst e1 e2 e3
  exact hs
theorem spC_good {s : ByteArray} {X0 X1 : Int} {b : Nat} {i : ByteArray} {l : List Sg} (h : vL s 0 2 = some ([X0, X1], b)) (h5 : showC ⟨X0, X1, i, l⟩ = s) : rdC s = (⟨X0, X1, i, l⟩, true) := by
  refine rdC_yes ?_ h5
  by_cases h1 : cOk ⟨X0, X1, i, l⟩ = true
  · exact h1
  · exfalso
    rw [showC_no (by simpa using h1)] at h5
    have h0 := (vL_two h).2.2
    have h2 := (rvAt_bound s 0).1
    rw [← h5] at h0 h2
    have : (⟨#[]⟩ : ByteArray).size = 0 := rfl
    omega
end Go.Proofs.YtajfmjgaaapjeaaGreatDoor.Num
namespace Go.Proofs.YtajfmjgaaapjeaaGreatDoor
open Go.RowKit
open Num
set_option linter.unusedVariables false
/-- Block g holds just these cells, and may be written. -/
def Blk (W : World) (g : Nat) (cs : List Value) (t : TypeId) : Prop := W.heap[g]? = some (.cells cs.toArray t (0, 0))
theorem Blk.cell {W : World} {g : Nat} {cs : List Value} {t : TypeId} (h : Blk W g cs t) (j : Nat) {v : Value} (hv : cs[j]? = some v) : W.cell? ⟨g, j, none⟩ = some v := by
  rw [cell_of_row W g j _ t (0, 0) h]; simpa using hv
theorem Blk.frozen {W : World} {g : Nat} {cs : List Value} {t : TypeId} (h : Blk W g cs t) (j : Nat) : W.frozen? ⟨g, j, none⟩ = false := frozen_of_row W g j _ t h
theorem Blk.set {W : World} {g : Nat} {cs : List Value} {t : TypeId} (h : Blk W g cs t) (j : Nat) (u : Value) : Blk (W.setCell ⟨g, j, none⟩ u) g (cs.set j u) t := by
  unfold Blk at h ⊢
  rw [heap_setCell_same W g j _ t _ h]; simp
theorem Blk.other {W : World} {g : Nat} {cs : List Value} {t : TypeId} (h : Blk W g cs t) {g' : Nat} (j : Nat) (u : Value) (hne : g ≠ g') : Blk (W.setCell ⟨g', j, none⟩ u) g cs t := by
  unfold Blk at h ⊢
  rw [heap_setCell_other W ⟨g', j, none⟩ g u hne]; exact h
theorem Blk.below {W W' : World} {g B : Nat} {cs : List Value} {t : TypeId} (h : Blk W g cs t) (hb : Below B W W') (hg : g < B) : Blk W' g cs t := by
  unfold Blk at h ⊢
  rw [hb.block g hg]; exact h
theorem Blk.lt {W : World} {g : Nat} {cs : List Value} {t : TypeId} (h : Blk W g cs t) : g < W.heap.size := (Array.getElem?_eq_some_iff.1 h).1
theorem Blk.grown {W W' : World} {g : Nat} {r : Option Nat} {cs : List Value} {t : TypeId} (h : Blk W g cs t) (k : W.grownBy W' r) (hr : r ≠ some g) : Blk W' g cs t := by
  have := h.lt
  unfold Blk at h ⊢
  rw [k.block g this (fun e => hr e.symm)]; exact h
theorem Blk.alloc {W : World} {g : Nat} {cs : List Value} {t : TypeId} (h : Blk W g cs t) (o : Obj) : Blk (W.alloc o) g cs t := h.below ((Below.refl _ _).alloc (Nat.le_refl _) o) h.lt
theorem blk_new (w : World) (cs : List Value) (t : TypeId) : Blk (w.alloc (.cells cs.toArray t)) w.heap.size cs t := heap_alloc_new _ _
theorem beq_str (a b : ByteArray) : (a.toList == b.toList) = decide (a = b) := by
  by_cases h : a = b
  · subst h; simp
  · rw [decide_eq_false h, ← Bool.not_eq_true, beq_iff_eq]
    intro e
    rw [Go.ByteArray.toList_eq, Go.ByteArray.toList_eq] at e
    exact h (ByteArray.ext (Array.ext' e))
end Go.Proofs.YtajfmjgaaapjeaaGreatDoor
namespace Go.Proofs.YtajfmjgaaapjeaaGreatDoor
open Go.RowKit
open Num
set_option linter.unusedVariables false
/-- Signatures in cells from a place on. -/
def SAt (w : World) (b o : Nat) (l : List Sg) : Prop := ∀ j (hj : j < l.length), w.cell? ⟨b, o + j * 2, none⟩ = some (.int .i64 l[j].v) ∧ w.cell? ⟨b, o + j * 2 + 1, none⟩ = some (.string l[j].s)
/-- .. where a slice says, if any. -/
def SO (w : World) (a : Option Addr) (l : List Sg) : Prop := l.length = 0 ∨ ∃ b o, a = some ⟨b, o, none⟩ ∧ SAt w b o l
theorem SAt.lt {w : World} {b o : Nat} {l : List Sg} (h : SAt w b o l) (h0 : 0 < l.length) : b < w.heap.size := World.block_lt_of_cell? w _ (h 0 h0).1
theorem SAt.below {w w' : World} {B b o : Nat} {l : List Sg} (h : SAt w b o l) (hb : Below B w w') (hB : b < B) : SAt w' b o l := fun j hj => by
  obtain ⟨h1, h2⟩ := h j hj
  exact ⟨(hb.cell (p := ⟨b, o + j * 2, none⟩) hB).trans h1, (hb.cell (p := ⟨b, o + j * 2 + 1, none⟩) hB).trans h2⟩
theorem SO.below {w w' : World} {a : Option Addr} {l : List Sg} (h : SO w a l) (hb : Below w.heap.size w w') : SO w' a l := by
  rcases h with h | ⟨b, o, h1, h2⟩
  · exact .inl h
  · rcases Nat.eq_zero_or_pos l.length with h0 | h0
    · exact .inl h0
    · exact .inr ⟨b, o, h1, h2.below hb (h2.lt h0)⟩
theorem SAt.o {w : World} {b o : Nat} {l : List Sg} (h : SAt w b o l) : SO w (some ⟨b, o, none⟩) l := .inr ⟨b, o, rfl, h⟩
def sgV (x : Sg) : Value := .agg #[.int .i64 x.v, .string x.s]
def sgc (x : Sg) : List Value := [.int .i64 x.v, .string x.s]
def cV (x : Ct) (a : Option Addr) (cap : Nat) : Value := .agg #[.int .i64 x.h, .int .i64 x.r, .string x.i, .slice a x.l.length cap]
def ccs (x : Ct) (a : Option Addr) (cap : Nat) : List Value := [.int .i64 x.h, .int .i64 x.r, .string x.i, .slice a x.l.length cap]
theorem below_two (w : World) (o o' : Obj) : Below w.heap.size w ((w.alloc o).alloc o') := ((Below.refl _ _).alloc (Nat.le_refl _) _).alloc (by simp) _
theorem below_one (w : World) (o : Obj) : Below w.heap.size w (w.alloc o) := (Below.refl _ _).alloc (Nat.le_refl _) _
end Go.Proofs.YtajfmjgaaapjeaaGreatDoor
namespace Go.Proofs.YtajfmjgaaapjeaaGreatDoor
open Go.RowKit
open Num
set_option linter.unusedVariables false
set_option maxHeartbeats 400000 in
set_option maxRecDepth 100000 in
theorem spec_l9v (x : Ct) (a : Option Addr) (cap : Nat) (v : Int) (w : World) :
    Calls Tryz.prog 54 #[cV x a cap, .int .i64 v] w fun e w' => e = .returned (tV ⟨x.h, x.r, 2, x.i, v⟩) ∧ Below w.heap.size w w' := by
  obtain ⟨h, r, i, l⟩ := x
  unfold cV tV
  simp only
  go_enter Tryz.func54, Tryz.ntmps54
  go_wp2
  refine bodyPost_ret (v := .agg #[.int .i64 h, .int .i64 r, .int .i64 2, .string i, .int .i64 v]) (by simp [results, Tryz.results54, go_sem]) rfl ⟨rfl, ?_⟩
  first | exact below_two _ _ _ | exact (((((below_two _ _ _).setCell (by simp) _).setCell (by simp) _).setCell (by simp) _).setCell (by simp) _).setCell (by simp) _
/-- Rows that a machine can hold. -/
def SzOk (x : Ct) : Prop := x.i.size ≤ 9223372036854775807 ∧ x.l.length ≤ 9223372036854775807 ∧ ∀ y ∈ x.l, y.s.size ≤ 9223372036854775807
theorem cOk_h {x : Ct} (h : hdB x.h x.r x.i = false) : cOk x = false := cOk_no fun e => by rw [h] at e; exact absurd e.1 (by decide)
theorem cOk_m {x : Ct} (h : ¬ x.l.length ≤ 12) : cOk x = false := cOk_no fun e => h e.2.1
theorem cOk_g {x : Ct} {j : Nat} (hj : j < x.l.length) (h : sgB x.l[j] = false) : cOk x = false := cOk_no fun e => by
  have := e.2.2 _ (List.getElem_mem hj)
  rw [h] at this; cases this
theorem cOk_y {x : Ct} (h : hdB x.h x.r x.i = true) (h2 : x.l.length ≤ 12) (h3 : ∀ j (hj : j < x.l.length), sgB x.l[j] = true) : cOk x = true :=
  (cOk_iff x).2 ⟨h, h2, fun y hy => by obtain ⟨j, hj, rfl⟩ := List.getElem_of_mem hy; exact h3 j hj⟩
end Go.Proofs.YtajfmjgaaapjeaaGreatDoor
