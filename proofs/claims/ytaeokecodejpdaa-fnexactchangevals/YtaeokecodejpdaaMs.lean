/- Plain facts on rows of validators that are put in order: exchanges, turns of two neighbours, merges that keep the order of equals; of no Go text. No conditions. -/
import Derived.Test.YtaeokecodejpdaaKn
namespace Go.Proofs.Ytaeokecodejpdaa.Num
set_option linter.unusedVariables false
def el (l : List V) (i : Nat) : V := l.getD i nobody
theorem el_at {l : List V} {i : Nat} (h : i < l.length) : el l i = l[i] := getD_at h
theorem el_left {l m : List V} {i : Nat} (h : i < l.length) : el (l ++ m) i = el l i := by
  unfold el; rw [List.getD_eq_getElem?_getD, List.getD_eq_getElem?_getD, List.getElem?_append_left h]
theorem el_right {l m : List V} {i : Nat} (h : l.length ≤ i) : el (l ++ m) i = el m (i - l.length) := by
  unfold el; rw [List.getD_eq_getElem?_getD, List.getD_eq_getElem?_getD, List.getElem?_append_right h]
theorem el_zero (v : V) (l : List V) : el (v :: l) 0 = v := rfl
def seg (l : List V) (i j : Nat) : List V := (l.drop i).take (j - i)
theorem seg_length {l : List V} {i j : Nat} (h : i ≤ j) (hj : j ≤ l.length) : (seg l i j).length = j - i := by
  unfold seg; rw [List.length_take, List.length_drop]; omega
theorem drop_el {l : List V} {i : Nat} (h : i < l.length) : l.drop i = el l i :: l.drop (i + 1) := by
  rw [List.drop_eq_getElem_cons h, el_at h]
theorem take_el {l : List V} {i : Nat} (h : i < l.length) : l.take (i + 1) = l.take i ++ [el l i] := by
  rw [List.take_succ_eq_append_getElem h, el_at h]
theorem seg_self (l : List V) (i : Nat) : seg l i i = [] := by unfold seg; simp
theorem seg_cons {l : List V} {i j : Nat} (h : i < j) (hi : i < l.length) : seg l i j = el l i :: seg l (i + 1) j := by
  unfold seg
  rw [drop_el hi, show j - i = (j - (i + 1)) + 1 from by omega, List.take_succ_cons]
theorem seg_snoc {l : List V} {i j : Nat} (h : i ≤ j) (hj : j < l.length) : seg l i (j + 1) = seg l i j ++ [el l j] := by
  unfold seg
  rw [show j + 1 - i = (j - i) + 1 from by omega]
  rw [take_el (by rw [List.length_drop]; omega)]
  congr 2
  unfold el
  rw [List.getD_eq_getElem?_getD, List.getD_eq_getElem?_getD, List.getElem?_drop, show i + (j - i) = j from by omega]
theorem take_seg {l : List V} {i j : Nat} (h : i ≤ j) : l.take j = l.take i ++ seg l i j := by
  unfold seg
  rw [← List.take_add, show i + (j - i) = j from by omega]
theorem drop_seg {l : List V} {i j : Nat} (h : i ≤ j) : l.drop i = seg l i j ++ l.drop j := by
  unfold seg
  have := List.take_append_drop (j - i) (l.drop i)
  rw [List.drop_drop, show i + (j - i) = j from by omega] at this
  exact this.symm
/-- Two exchanged. -/
def xch (l : List V) (i j : Nat) : List V := (l.set i (el l j)).set j (el l i)
theorem xch_length (l : List V) (i j : Nat) : (xch l i j).length = l.length := by simp [xch]
theorem xch_app (x : List V) (p : V) (m : List V) (q : V) (y : List V) : xch (x ++ p :: m ++ q :: y) x.length (x.length + 1 + m.length) = x ++ q :: m ++ p :: y := by
  have e1 : el (x ++ p :: m ++ q :: y) x.length = p := by
    rw [List.append_assoc, el_right (Nat.le_refl _), Nat.sub_self]; rfl
  have e2 : el (x ++ p :: m ++ q :: y) (x.length + 1 + m.length) = q := by
    rw [el_right (by simp; omega)]
    rw [show x.length + 1 + m.length - (x ++ p :: m).length = 0 from by simp; omega]; rfl
  unfold xch
  rw [e1, e2]
  have s1 : (x ++ p :: m ++ q :: y).set x.length q = x ++ q :: m ++ q :: y := by
    rw [List.append_assoc, List.set_append_right _ _ (Nat.le_refl _), Nat.sub_self]; simp
  rw [s1, List.set_append_right _ _ (by simp; omega), show x.length + 1 + m.length - (x ++ q :: m).length = 0 from by simp; omega]
  rfl
theorem xch_comm (l : List V) (i j : Nat) (hne : i ≠ j) : xch l i j = xch l j i := by
  unfold xch; rw [List.set_comm _ _ hne]
/-- Two runs of n exchanged. -/
def swr (l : List V) (a m n : Nat) : List V := l.take a ++ seg l m (m + n) ++ seg l (a + n) m ++ seg l a (a + n) ++ l.drop (m + n)
theorem swr_zero {l : List V} {a m : Nat} (h : a ≤ m) : swr l a m 0 = l := by
  unfold swr
  rw [Nat.add_zero, Nat.add_zero, seg_self, seg_self, List.append_nil, List.append_nil, ← take_seg h, List.take_append_drop]
theorem swr_length {l : List V} {a m n : Nat} (h : a + n ≤ m) (hm : m + n ≤ l.length) : (swr l a m n).length = l.length := by
  unfold swr
  simp only [List.length_append, List.length_take, List.length_drop]
  rw [seg_length (by omega) (by omega), seg_length (by omega) (by omega), seg_length (by omega) (by omega)]; omega
theorem swr_succ {l : List V} {a m i : Nat} (h : a + i + 1 ≤ m) (hm : m + i + 1 ≤ l.length) : xch (swr l a m i) (a + i) (m + i) = swr l a m (i + 1) := by
  have hx : (l.take a ++ seg l m (m + i)).length = a + i := by
    rw [List.length_append, List.length_take, seg_length (by omega) (by omega)]; omega
  have e : swr l a m i = (l.take a ++ seg l m (m + i)) ++ el l (a + i) :: (seg l (a + i + 1) m ++ seg l a (a + i)) ++ el l (m + i) :: l.drop (m + i + 1) := by
    unfold swr
    rw [seg_cons (show a + i < m by omega) (by omega), drop_el (show m + i < l.length by omega)]
    simp
  have hm' : (seg l (a + i + 1) m ++ seg l a (a + i)).length = m - (a + 1) := by
    rw [List.length_append, seg_length (by omega) (by omega), seg_length (by omega) (by omega)]; omega
  have k := xch_app (l.take a ++ seg l m (m + i)) (el l (a + i)) (seg l (a + i + 1) m ++ seg l a (a + i)) (el l (m + i)) (l.drop (m + i + 1))
  rw [← e, hx, hm', show a + i + 1 + (m - (a + 1)) = m + i from by omega] at k
  rw [k]
  unfold swr
  rw [show m + (i + 1) = m + i + 1 from rfl, show a + (i + 1) = a + i + 1 from rfl, seg_snoc (show m ≤ m + i by omega) (by omega), seg_snoc (show a ≤ a + i by omega) (by omega)]
  simp
theorem seg_mid (x s y : List V) : seg (x ++ s ++ y) x.length (x.length + s.length) = s := by
  unfold seg
  rw [List.append_assoc, List.drop_left, Nat.add_sub_cancel_left, List.take_left]
theorem swr_parts (x A B C y : List V) (h : A.length = C.length) : swr (x ++ A ++ B ++ C ++ y) x.length (x.length + A.length + B.length) A.length = x ++ C ++ B ++ A ++ y := by
  have e1 : (x ++ A ++ B ++ C ++ y).take x.length = x := by simp
  have e2 : seg (x ++ A ++ B ++ C ++ y) (x.length + A.length + B.length) (x.length + A.length + B.length + A.length) = C := by
    have := seg_mid (x ++ A ++ B) C y
    simp only [List.length_append] at this
    rw [h] at this ⊢; exact this
  have e3 : seg (x ++ A ++ B ++ C ++ y) (x.length + A.length) (x.length + A.length + B.length) = B := by
    have := seg_mid (x ++ A) B (C ++ y)
    simp only [List.length_append, ← List.append_assoc] at this
    exact this
  have e4 : seg (x ++ A ++ B ++ C ++ y) x.length (x.length + A.length) = A := by
    have := seg_mid x A (B ++ C ++ y)
    simp only [← List.append_assoc] at this
    exact this
  have e5 : (x ++ A ++ B ++ C ++ y).drop (x.length + A.length + B.length + A.length) = y := by
    have : x.length + A.length + B.length + A.length = (x ++ A ++ B ++ C).length := by simp [h]; omega
    rw [this, List.drop_left]
  unfold swr
  rw [e1, e2, e3, e4, e5]
/-- In order. -/
def Srt (l : List V) : Prop := l.Pairwise fun x y => x.i ≤ y.i
/-- Each number's own ones stand as they stood. -/
def Stb (l m : List V) : Prop := ∀ c : Int, l.filter (fun x => decide (x.i = c)) = m.filter (fun x => decide (x.i = c))
theorem Stb.refl (l : List V) : Stb l l := fun _ => rfl
theorem Stb.trans {l m n : List V} (h : Stb l m) (k : Stb m n) : Stb l n := fun c => (h c).trans (k c)
theorem Stb.symm {l m : List V} (h : Stb l m) : Stb m l := fun c => (h c).symm
theorem Stb.app {l m l' m' : List V} (h : Stb l m) (h' : Stb l' m') : Stb (l ++ l') (m ++ m') := fun c => by
  rw [List.filter_append, List.filter_append, h c, h' c]
theorem Stb.swap {u v : List V} (h : ∀ x ∈ u, ∀ y ∈ v, x.i ≠ y.i) : Stb (u ++ v) (v ++ u) := fun c => by
  rw [List.filter_append, List.filter_append]
  by_cases hu : ∃ x ∈ u, x.i = c
  · obtain ⟨x, hx, rfl⟩ := hu
    rw [show v.filter (fun y => decide (y.i = x.i)) = [] from List.filter_eq_nil_iff.2 (fun y hy => by simpa using (fun e => h x hx y hy e.symm))]
    simp
  · rw [show u.filter (fun y => decide (y.i = c)) = [] from List.filter_eq_nil_iff.2 (fun y hy => by simpa using (fun e => hu ⟨y, hy, e⟩))]
    simp
theorem Stb.mem {l m : List V} (h : Stb l m) {x : V} (hx : x ∈ m) : x ∈ l := by
  have : x ∈ m.filter (fun y => decide (y.i = x.i)) := List.mem_filter.2 ⟨hx, by simp⟩
  rw [← h x.i] at this
  exact (List.mem_filter.1 this).1
/-- M is what L and R make, put in order. -/
structure Mrg (L R M : List V) : Prop where
  srt : Srt M
  stb : Stb (L ++ R) M
  len : M.length = L.length + R.length
theorem Mrg.left {R : List V} (h : Srt R) : Mrg [] R R := ⟨h, Stb.refl _, by simp⟩
theorem Mrg.right {L : List V} (h : Srt L) : Mrg L [] L := ⟨h, by rw [List.append_nil]; exact Stb.refl _, by simp⟩
theorem Srt.app {l m : List V} (h1 : Srt l) (h2 : Srt m) (h : ∀ x ∈ l, ∀ y ∈ m, x.i ≤ y.i) : Srt (l ++ m) := List.pairwise_append.2 ⟨h1, h2, h⟩
theorem Srt.parts {l m : List V} (h : Srt (l ++ m)) : Srt l ∧ Srt m ∧ ∀ x ∈ l, ∀ y ∈ m, x.i ≤ y.i := List.pairwise_append.1 h
theorem Mrg.split {L1 L2 R1 R2 M1 M2 : List V} (hL : Srt (L1 ++ L2)) (hR : Srt (R1 ++ R2)) (h1 : ∀ x ∈ L1, ∀ y ∈ R2, x.i ≤ y.i) (h2 : ∀ x ∈ L2, ∀ y ∈ R1, y.i < x.i)
    (m1 : Mrg L1 R1 M1) (m2 : Mrg L2 R2 M2) : Mrg (L1 ++ L2) (R1 ++ R2) (M1 ++ M2) := by
  obtain ⟨_, _, hL3⟩ := hL.parts
  obtain ⟨_, _, hR3⟩ := hR.parts
  refine ⟨m1.srt.app m2.srt fun x hx y hy => ?_, ?_, by rw [List.length_append, List.length_append, List.length_append, m1.len, m2.len]; omega⟩
  · have hx' := m1.stb.mem hx
    have hy' := m2.stb.mem hy
    rw [List.mem_append] at hx' hy'
    rcases hx' with hx' | hx' <;> rcases hy' with hy' | hy'
    · exact hL3 x hx' y hy'
    · exact h1 x hx' y hy'
    · exact Int.le_of_lt (h2 y hy' x hx')
    · exact hR3 x hx' y hy'
  · have e : L1 ++ L2 ++ (R1 ++ R2) = L1 ++ (L2 ++ R1 ++ R2) := by simp
    rw [e]
    refine Stb.trans ?_ (m1.stb.app m2.stb)
    have e2 : L1 ++ R1 ++ (L2 ++ R2) = L1 ++ (R1 ++ L2 ++ R2) := by simp
    rw [e2]
    exact (Stb.refl _).app ((Stb.swap fun x hx y hy => by have := h2 x hx y hy; omega).app (Stb.refl _))
theorem Mrg.one_left {e : V} {R1 R2 : List V} (hR : Srt (R1 ++ R2)) (h1 : ∀ v ∈ R1, v.i < e.i) (h2 : ∀ v ∈ R2, e.i ≤ v.i) : Mrg [e] (R1 ++ R2) (R1 ++ e :: R2) := by
  obtain ⟨hr1, hr2, hr3⟩ := hR.parts
  refine ⟨hr1.app (List.pairwise_cons.2 ⟨h2, hr2⟩) fun x hx y hy => ?_, ?_, by simp; omega⟩
  · rcases List.mem_cons.1 hy with rfl | hy
    · exact Int.le_of_lt (h1 x hx)
    · exact hr3 x hx y hy
  · have : [e] ++ (R1 ++ R2) = ([e] ++ R1) ++ R2 := by simp
    rw [this, show R1 ++ e :: R2 = (R1 ++ [e]) ++ R2 from by simp]
    exact (Stb.swap fun x hx y hy => by simp at hx; subst hx; have := h1 y hy; omega).app (Stb.refl _)
theorem Mrg.one_right {e : V} {L1 L2 : List V} (hL : Srt (L1 ++ L2)) (h1 : ∀ v ∈ L1, v.i ≤ e.i) (h2 : ∀ v ∈ L2, e.i < v.i) : Mrg (L1 ++ L2) [e] (L1 ++ e :: L2) := by
  obtain ⟨hr1, hr2, hr3⟩ := hL.parts
  refine ⟨hr1.app (List.pairwise_cons.2 ⟨fun v hv => Int.le_of_lt (h2 v hv), hr2⟩) fun x hx y hy => ?_, ?_, by simp; omega⟩
  · rcases List.mem_cons.1 hy with rfl | hy
    · exact h1 x hx
    · exact hr3 x hx y hy
  · rw [List.append_assoc]
    have := Stb.swap (u := L2) (v := [e]) (fun x hx y hy => by simp at hy; subst hy; have := h2 x hx; omega)
    exact (Stb.refl _).app this
theorem Srt.idx {l : List V} (h : Srt l) {i j : Nat} (hij : i ≤ j) (hj : j < l.length) : (el l i).i ≤ (el l j).i := by
  rw [el_at (show i < l.length by omega), el_at hj]
  rcases Nat.lt_or_eq_of_le hij with h' | h'
  · exact List.pairwise_iff_getElem.1 h i j (by omega) hj h'
  · subst h'; exact Int.le_refl _
theorem mem_take_el {l : List V} {k : Nat} {v : V} (h : v ∈ l.take k) : ∃ j, j < k ∧ j < l.length ∧ el l j = v := by
  obtain ⟨j, hj, rfl⟩ := List.getElem_of_mem h
  rw [List.length_take] at hj
  exact ⟨j, by omega, by omega, by rw [el_at (by omega), List.getElem_take]⟩
theorem mem_drop_el {l : List V} {k : Nat} {v : V} (h : v ∈ l.drop k) : ∃ j, k ≤ j ∧ j < l.length ∧ el l j = v := by
  obtain ⟨j, hj, rfl⟩ := List.getElem_of_mem h
  rw [List.length_drop] at hj
  exact ⟨k + j, by omega, by omega, by rw [el_at (by omega), List.getElem_drop]⟩
theorem take_below {l : List V} (h : Srt l) {k : Nat} (hk : k ≤ l.length) {c : Int} (hb : k = 0 ∨ (el l (k - 1)).i < c) : ∀ v ∈ l.take k, v.i < c := by
  intro v hv
  obtain ⟨j, h1, h2, rfl⟩ := mem_take_el hv
  rcases hb with hb | hb
  · omega
  · have := h.idx (show j ≤ k - 1 by omega) (by omega); omega
theorem take_upto {l : List V} (h : Srt l) {k : Nat} (hk : k ≤ l.length) {c : Int} (hb : k = 0 ∨ (el l (k - 1)).i ≤ c) : ∀ v ∈ l.take k, v.i ≤ c := by
  intro v hv
  obtain ⟨j, h1, h2, rfl⟩ := mem_take_el hv
  rcases hb with hb | hb
  · omega
  · have := h.idx (show j ≤ k - 1 by omega) (by omega); omega
theorem drop_from {l : List V} (h : Srt l) {k : Nat} {c : Int} (hb : l.length ≤ k ∨ c ≤ (el l k).i) : ∀ v ∈ l.drop k, c ≤ v.i := by
  intro v hv
  obtain ⟨j, h1, h2, rfl⟩ := mem_drop_el hv
  rcases hb with hb | hb
  · omega
  · have := h.idx h1 h2; omega
theorem drop_above {l : List V} (h : Srt l) {k : Nat} {c : Int} (hb : l.length ≤ k ∨ c < (el l k).i) : ∀ v ∈ l.drop k, c < v.i := by
  intro v hv
  obtain ⟨j, h1, h2, rfl⟩ := mem_drop_el hv
  rcases hb with hb | hb
  · omega
  · have := h.idx h1 h2; omega
theorem sym_facts {L R : List V} (hL : Srt L) (hR : Srt R) {t1 t2 : Nat} (h1 : t1 ≤ L.length) (h2 : t2 ≤ R.length) (hA : t1 = 0 ∨ t2 = R.length ∨ (el L (t1 - 1)).i ≤ (el R t2).i) (hB : t1 = L.length ∨ t2 = 0 ∨ (el R (t2 - 1)).i < (el L t1).i) :
    (∀ u ∈ L.take t1, ∀ v ∈ R.drop t2, u.i ≤ v.i) ∧ (∀ u ∈ L.drop t1, ∀ v ∈ R.take t2, v.i < u.i) := by
  constructor
  · intro u hu v hv
    obtain ⟨i, i1, i2, rfl⟩ := mem_take_el hu
    obtain ⟨j, j1, j2, rfl⟩ := mem_drop_el hv
    rcases hA with h | h | h
    · omega
    · omega
    · have a1 := hL.idx (show i ≤ t1 - 1 by omega) (by omega)
      have a2 := hR.idx j1 j2
      omega
  · intro u hu v hv
    obtain ⟨i, i1, i2, rfl⟩ := mem_drop_el hu
    obtain ⟨j, j1, j2, rfl⟩ := mem_take_el hv
    rcases hB with h | h | h
    · omega
    · omega
    · have a1 := hL.idx i1 i2
      have a2 := hR.idx (show j ≤ t2 - 1 by omega) (by omega)
      omega
end Go.Proofs.Ytaeokecodejpdaa.Num
