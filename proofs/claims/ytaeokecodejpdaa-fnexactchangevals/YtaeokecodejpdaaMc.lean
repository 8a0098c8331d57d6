/- Plain facts on changes of validators: one by one, or put in order and done number by number: the same comes of it; of no Go text. No conditions. -/
import Derived.Test.YtaeokecodejpdaaMs
namespace Go.Proofs.Ytaeokecodejpdaa.Num
set_option linter.unusedVariables false
theorem snoc_ind {P : List V → Prop} (h0 : P []) (h1 : ∀ l v, P l → P (l ++ [v])) : ∀ l, P l := by
  intro l
  have : ∀ r : List V, P r.reverse := by
    intro r
    induction r with
    | nil => exact h0
    | cons v r ih => rw [List.reverse_cons]; exact h1 _ _ ih
  have := this l.reverse
  rwa [List.reverse_reverse] at this
/-- How much a number has, if it is there. -/
def get (l : List V) (c : Int) : Option Int := (l.find? fun v => decide (v.i = c)).map V.p
def SI (l : List V) : Prop := l.Pairwise fun x y => x.i < y.i
theorem get_app (l m : List V) (c : Int) : get (l ++ m) c = (get l c).or (get m c) := by
  unfold get
  rw [List.find?_append]
  cases l.find? (fun v => decide (v.i = c)) <;> simp
theorem get_one (v : V) (c : Int) : get [v] c = if v.i = c then some v.p else none := by
  unfold get
  by_cases h : v.i = c <;> simp [h]
theorem get_none {l : List V} {c : Int} (h : ∀ v ∈ l, v.i ≠ c) : get l c = none := by
  unfold get
  rw [List.find?_eq_none.2 (fun v hv => by simpa using h v hv)]; rfl
theorem get_mem {l : List V} {c : Int} (h : get l c ≠ none) : ∃ v ∈ l, v.i = c := by
  by_cases hh : ∃ v ∈ l, v.i = c
  · exact hh
  · exact absurd (get_none fun v hv e => hh ⟨v, hv, e⟩) h
theorem get_cons (v : V) (l : List V) (c : Int) : get (v :: l) c = if v.i = c then some v.p else get l c := by
  unfold get
  by_cases h : v.i = c <;> simp [h]
theorem SI.ext : ∀ {l m : List V}, SI l → SI m → (∀ c, get l c = get m c) → l = m
  | [], [], _, _, _ => rfl
  | [], u :: m, _, _, h => by have := h u.i; rw [get_cons, if_pos rfl] at this; cases this
  | v :: l, [], _, _, h => by have := h v.i; rw [get_cons, if_pos rfl] at this; cases this
  | v :: l, u :: m, hl, hm, h => by
    obtain ⟨l1, l2⟩ := List.pairwise_cons.1 hl
    obtain ⟨m1, m2⟩ := List.pairwise_cons.1 hm
    have e : v.i = u.i := by
      have a1 := h v.i
      have a2 := h u.i
      rw [get_cons, if_pos rfl] at a1
      rw [get_cons u m, if_pos rfl] at a2
      by_cases hlt : v.i < u.i
      · rw [get_cons, if_neg (by omega), get_none (fun x hx => by have := m1 x hx; omega)] at a1; cases a1
      · by_cases hgt : u.i < v.i
        · rw [get_cons, if_neg (by omega), get_none (fun x hx => by have := l1 x hx; omega)] at a2; cases a2
        · omega
    have ep : v.p = u.p := by
      have a1 := h v.i
      rw [get_cons, if_pos rfl, get_cons, if_pos e.symm] at a1
      exact Option.some.inj a1
    have et : l = m := SI.ext l2 m2 fun c => by
      have a := h c
      rw [get_cons, get_cons] at a
      by_cases hc : v.i = c
      · rw [get_none (fun x hx => by have := l1 x hx; omega), get_none (fun x hx => by have := m1 x hx; omega)]
      · rw [if_neg hc, if_neg (by omega)] at a; exact a
    have ev : v = u := by cases v; cases u; simp_all
    rw [ev, et]
/-- One number's changes, one by one: failed, or what it has. -/
def kstep (s : Option (Option Int)) (v : V) : Option (Option Int) :=
  match s with
  | none => none
  | some t => if v.p = 0 then (if t = none then none else some none) else some (some v.p)
def kf (c : Int) (d : List V) : Option (Option Int) := (d.filter fun v => decide (v.i = c)).foldl kstep (some none)
theorem kf_snoc (c : Int) (d : List V) (v : V) : kf c (d ++ [v]) = if v.i = c then kstep (kf c d) v else kf c d := by
  unfold kf
  rw [List.filter_append, List.foldl_append]
  by_cases h : v.i = c <;> simp [h]
theorem kf_stb {c : Int} {d d' : List V} (h : Stb d d') : kf c d = kf c d' := by unfold kf; rw [h c]
/-- The changes done at the end of what is left. -/
def vlStep (acc : List V) (ch : V) : Option (List V) :=
  if 0 < acc.length ∧ (el acc (acc.length - 1)).i = ch.i then (if ch.p = 0 then some (acc.take (acc.length - 1)) else some (acc.take (acc.length - 1) ++ [⟨(el acc (acc.length - 1)).i, ch.p⟩]))
  else if ch.p = 0 then none else some (acc ++ [ch])
def vlf (d : List V) : Option (List V) := d.foldl (fun s v => s.bind fun a => vlStep a v) (some [])
theorem vlf_snoc (d : List V) (v : V) : vlf (d ++ [v]) = (vlf d).bind fun a => vlStep a v := by
  unfold vlf; rw [List.foldl_append]; rfl
theorem vlf_none (d e : List V) (h : vlf d = none) : vlf (d ++ e) = none := by
  revert e
  refine snoc_ind (by rw [List.append_nil]; exact h) fun e v ih => ?_
  rw [← List.append_assoc, vlf_snoc, ih]; rfl
theorem last_split {acc : List V} (h : 0 < acc.length) : acc = acc.take (acc.length - 1) ++ [el acc (acc.length - 1)] := by
  have := take_el (l := acc) (i := acc.length - 1) (by omega)
  rw [show acc.length - 1 + 1 = acc.length from by omega, List.take_length] at this
  exact this
theorem vl_inv : ∀ d : List V, Srt d → (vlf d = none → ∃ c, kf c d = none) ∧ ∀ acc, vlf d = some acc → SI acc ∧ (∀ v ∈ acc, ∃ u ∈ d, v.i = u.i) ∧ ∀ c, kf c d = some (get acc c) := by
  refine snoc_ind ?_ fun d v ih => ?_
  · intro _
    refine ⟨fun h => (by cases h), fun acc h => ?_⟩
    have : acc = [] := (Option.some.inj h).symm
    subst this
    exact ⟨List.Pairwise.nil, fun v hv => (by cases hv), fun c => rfl⟩
  · intro hs
    obtain ⟨hd, _, hle⟩ := hs.parts
    have hle' : ∀ u ∈ d, u.i ≤ v.i := fun u hu => hle u hu v (by simp)
    obtain ⟨i1, i2⟩ := ih hd
    rw [vlf_snoc]
    cases hv : vlf d with
    | none =>
      obtain ⟨c, hc⟩ := i1 hv
      refine ⟨fun _ => ⟨c, ?_⟩, fun acc h => by cases h⟩
      rw [kf_snoc, hc]
      split <;> rfl
    | some acc =>
      obtain ⟨s1, s2, s3⟩ := i2 acc hv
      have hacc : ∀ u ∈ acc, u.i ≤ v.i := fun u hu => by
        obtain ⟨z, hz, e⟩ := s2 u hu
        have := hle' z hz; omega
      simp only [Option.bind_some]
      unfold vlStep
      by_cases hlast : 0 < acc.length ∧ (el acc (acc.length - 1)).i = v.i
      · rw [if_pos hlast]
        have hsp := last_split hlast.1
        obtain ⟨A, hA⟩ : ∃ A, acc.take (acc.length - 1) = A := ⟨_, rfl⟩
        obtain ⟨u, hu⟩ : ∃ u, el acc (acc.length - 1) = u := ⟨_, rfl⟩
        rw [hA, hu] at hsp ⊢
        have hui : u.i = v.i := by rw [← hu]; exact hlast.2
        rw [hsp] at s1 s2 s3
        obtain ⟨a1, _, a3⟩ := List.pairwise_append.1 s1
        have hAlt : ∀ z ∈ A, z.i < v.i := fun z hz => by have := a3 z hz u (by simp); omega
        by_cases hp : v.p = 0
        · rw [if_pos hp]
          refine ⟨fun h => (by cases h), fun acc' h => ?_⟩
          have : acc' = A := (Option.some.inj h).symm
          subst this
          refine ⟨a1, fun z hz => by obtain ⟨y, hy, e⟩ := s2 z (by simp [hz]); exact ⟨y, by simp [hy], e⟩, fun c => ?_⟩
          rw [kf_snoc, s3 c]
          by_cases hc : v.i = c
          · rw [if_pos hc, get_app, get_one, if_pos (by omega), get_none (fun z hz => by have := hAlt z hz; omega)]
            simp [kstep, hp]
          · rw [if_neg hc, get_app, get_one, if_neg (by omega)]
            cases get acc' c <;> rfl
        · rw [if_neg hp]
          refine ⟨fun h => (by cases h), fun acc' h => ?_⟩
          have : acc' = A ++ [⟨u.i, v.p⟩] := (Option.some.inj h).symm
          subst this
          refine ⟨List.pairwise_append.2 ⟨a1, List.pairwise_singleton _ _, fun z hz y hy => by simp at hy; subst hy; show z.i < u.i; have := hAlt z hz; omega⟩, fun z hz => ?_, fun c => ?_⟩
          · rcases List.mem_append.1 hz with hz | hz
            · obtain ⟨y, hy, e⟩ := s2 z (by simp [hz]); exact ⟨y, by simp [hy], e⟩
            · simp at hz; subst hz; exact ⟨v, by simp, hui⟩
          rw [kf_snoc, s3 c]
          by_cases hc : v.i = c
          · rw [if_pos hc, get_app, get_app, get_one, get_one, if_pos (show u.i = c by omega), if_pos (show u.i = c by omega), get_none (fun z hz => by have := hAlt z hz; omega)]
            simp [kstep, hp]
          · rw [if_neg hc, get_app, get_app, get_one, get_one, if_neg (show ¬ u.i = c by omega), if_neg (show ¬ u.i = c by omega)]
      · rw [if_neg hlast]
        have hAlt : ∀ z ∈ acc, z.i < v.i := fun z hz => by
          have h1 := hacc z hz
          obtain ⟨k, hk, rfl⟩ := List.getElem_of_mem hz
          by_cases hk' : k = acc.length - 1
          · have : (el acc (acc.length - 1)).i ≠ v.i := fun e => hlast ⟨by omega, e⟩
            rw [el_at (by omega)] at this
            subst hk'; omega
          · have h2 := List.pairwise_iff_getElem.1 s1 k (acc.length - 1) hk (by omega) (by omega)
            have h3 := hacc (acc[acc.length - 1]'(by omega)) (List.getElem_mem ..)
            omega
        have hg : get acc v.i = none := get_none fun z hz => by have := hAlt z hz; omega
        by_cases hp : v.p = 0
        · rw [if_pos hp]
          refine ⟨fun _ => ⟨v.i, ?_⟩, fun acc' h => by cases h⟩
          rw [kf_snoc, if_pos rfl, s3, hg]
          simp [kstep, hp]
        · rw [if_neg hp]
          refine ⟨fun h => (by cases h), fun acc' h => ?_⟩
          have : acc' = acc ++ [v] := (Option.some.inj h).symm
          subst this
          refine ⟨List.pairwise_append.2 ⟨s1, List.pairwise_singleton _ _, fun z hz y hy => by simp at hy; subst hy; exact hAlt z hz⟩, fun z hz => ?_, fun c => ?_⟩
          · rcases List.mem_append.1 hz with hz | hz
            · obtain ⟨y, hy, e⟩ := s2 z hz; exact ⟨y, by simp [hy], e⟩
            · simp at hz; subst hz; exact ⟨z, by simp, rfl⟩
          rw [kf_snoc, s3 c, get_app, get_one]
          by_cases hc : v.i = c
          · rw [if_pos hc, if_pos hc, ← hc, hg]
            simp [kstep, hp]
          · rw [if_neg hc, if_neg hc]
            cases get acc c <;> rfl
end Go.Proofs.Ytaeokecodejpdaa.Num
