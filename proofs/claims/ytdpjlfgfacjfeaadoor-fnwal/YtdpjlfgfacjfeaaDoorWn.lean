/- Records of a log in plain terms: what a record is, which one a row of bytes begins with, which ones a log holds. No conditions. -/
import Derived.Test.YtdpjlfgfacjfeaaDoorHd
import Derived.Test.YtdpjlfgfacjfeaaDoorCrc
namespace Go.Proofs.YtdpjlfgfacjfeaaDoor
open Num
set_option linter.unusedVariables false
/-- The record of a text. -/
def rcd (s : ByteArray) : ByteArray := bif decide (60 < s.size) then ⟨#[]⟩ else fx (crcN (pc s) : Nat) 4 ++ pc s
theorem rcd_no {s : ByteArray} (h : 60 < s.size) : rcd s = ⟨#[]⟩ := by unfold rcd; rw [decide_eq_true h]; rfl
theorem rcd_yes {s : ByteArray} (h : s.size ≤ 60) : rcd s = fx (crcN (pc s) : Nat) 4 ++ pc s := by
  unfold rcd; rw [decide_eq_false (by omega)]; rfl
theorem crcN_le (s : ByteArray) : crcN s ≤ 4294967295 := by unfold crcN; omega
/-- The four bytes of a record's sum. -/
def h4 (s : ByteArray) : List UInt8 := (fx (crcN (pc s) : Nat) 4).data.toList
theorem h4_length (s : ByteArray) : (h4 s).length = 4 := by
  have hc := crcN_le (pc s)
  have hk : fxOk (crcN (pc s) : Nat) 4 = true := by
    unfold fxOk
    have : ((crcN (pc s) : Nat) : Int) / 256 ^ (4 : Int).toNat ≤ 0 := by
      show ((crcN (pc s) : Nat) : Int) / 256 ^ 4 ≤ 0
      omega
    simp only [Bool.and_eq_true, decide_eq_true_eq]
    exact ⟨⟨⟨by decide, by decide⟩, by omega⟩, this⟩
  unfold h4 fx
  rw [hk, cond_true]
  show (lo _ 4).length = 4
  exact length_lo _ 4
theorem pl_small {s : ByteArray} (h : s.size ≤ 60) : pl s = UInt8.ofNat s.size :: s.data.toList := by
  unfold pl
  rw [vl_small 6 _ (by omega)]
  simp
theorem rcd_list {s : ByteArray} (h : s.size ≤ 60) : (rcd s).data.toList = h4 s ++ UInt8.ofNat s.size :: s.data.toList := by
  rw [rcd_yes h, list_append, pc_list s (by omega), pl_small h]; rfl
theorem rcd_size {s : ByteArray} (h : s.size ≤ 60) : (rcd s).size = 5 + s.size := by
  rw [← len_toList, rcd_list h, List.length_append, h4_length, List.length_cons, len_toList]; omega
theorem rcd_le (s : ByteArray) : (rcd s).size ≤ 65 := by
  by_cases h : s.size ≤ 60
  · rw [rcd_size h]; omega
  · rw [rcd_no (by omega)]; exact Nat.zero_le _
theorem rcd_zero {s : ByteArray} (h : (rcd s).size = 0) : 60 < s.size := by
  by_cases h1 : s.size ≤ 60
  · rw [rcd_size h1] at h; omega
  · omega
theorem of_nat_toNat {n : Nat} (h : n ≤ 60) : (UInt8.ofNat n).toNat = n := by simp; omega
/-- The text whose record a row of bytes begins with, if any. -/
def rdy (l : List UInt8) : Option ByteArray :=
  match l.drop 4 with
  | [] => none
  | c :: r => if c.toNat ≤ 60 ∧ (rcd ⟨(r.take c.toNat).toArray⟩).data.toList <+: l then some ⟨(r.take c.toNat).toArray⟩ else none
theorem rdy_some {l : List UInt8} {t : ByteArray} (h : rdy l = some t) : t.size ≤ 60 ∧ (rcd t).data.toList <+: l := by
  unfold rdy at h
  split at h
  · cases h
  · rename_i c r _
    split at h
    · rename_i hc
      injection h with h
      subst h
      refine ⟨?_, hc.2⟩
      show (List.take c.toNat r).toArray.size ≤ 60
      rw [List.size_toArray, List.length_take]
      omega
    · cases h
theorem rdy_of {l : List UInt8} {t : ByteArray} (h : t.size ≤ 60) (hp : (rcd t).data.toList <+: l) : rdy l = some t := by
  obtain ⟨r, hr⟩ := hp
  have hl := hr
  rw [rcd_list h] at hr
  have hd : l.drop 4 = UInt8.ofNat t.size :: (t.data.toList ++ r) := by
    rw [← hr, List.append_assoc, List.drop_append_of_le_length (by rw [h4_length]; exact Nat.le_refl _), List.drop_of_length_le (by rw [h4_length]; exact Nat.le_refl _)]
    rfl
  have ht : (t.data.toList ++ r).take (UInt8.ofNat t.size).toNat = t.data.toList := by
    rw [of_nat_toNat h, List.take_append_of_le_length (by rw [len_toList]; exact Nat.le_refl _), List.take_of_length_le (by rw [len_toList]; exact Nat.le_refl _)]
  unfold rdy
  rw [hd]
  simp only
  rw [ht]
  have e : (⟨t.data.toList.toArray⟩ : ByteArray) = t := list_inj rfl
  rw [e, if_pos ⟨by rw [of_nat_toNat h]; exact h, ⟨r, hl⟩⟩]
/-- The bytes of a row of records. -/
def cat : List ByteArray → List UInt8
  | [] => []
  | t :: ts => (rcd t).data.toList ++ cat ts
theorem cat_append : ∀ (a b : List ByteArray), cat (a ++ b) = cat a ++ cat b
  | [], b => rfl
  | x :: a, b => by simp [cat, cat_append a b]
theorem cat_one (t : ByteArray) : cat [t] = (rcd t).data.toList := by simp [cat]
def Fits (ts : List ByteArray) : Prop := ∀ t ∈ ts, t.size ≤ 60
/-- A log holds just these records. -/
structure Holds (l : List UInt8) (ts : List ByteArray) : Prop where
  fits : Fits ts
  rest : ∃ r, l = cat ts ++ r ∧ rdy r = none
theorem holds_ex : ∀ (n : Nat) (l : List UInt8), l.length ≤ n → ∃ ts, Holds l ts
  | 0, l, h => by
    obtain rfl : l = [] := List.length_eq_zero_iff.1 (by omega)
    exact ⟨[], fun t ht => by simp at ht, [], rfl, rfl⟩
  | n + 1, l, h => by
    cases hr : rdy l with
    | none => exact ⟨[], fun t ht => by simp at ht, l, rfl, hr⟩
    | some t =>
      obtain ⟨h1, r, h2⟩ := rdy_some hr
      have hs := rcd_size h1
      have hlen : l.length = 5 + t.size + r.length := by rw [← h2, List.length_append, len_toList, hs]
      obtain ⟨ts, hf, q, hq, hn⟩ := holds_ex n r (by omega)
      exact ⟨t :: ts, fun x hx => by
        rcases List.mem_cons.1 hx with rfl | hx
        · exact h1
        · exact hf x hx, q, by rw [← h2, hq]; simp [cat], hn⟩
theorem holds_unique : ∀ {ts us : List ByteArray} {l : List UInt8}, Holds l ts → Holds l us → ts = us
  | [], [], _, _, _ => rfl
  | [], u :: us, l, ⟨_, r, h1, h2⟩, ⟨hf, q, h3, _⟩ => by
    have h1' : l = r := h1
    have := rdy_of (l := l) (t := u) (hf u (by simp)) ⟨cat us ++ q, by rw [h3]; simp [cat]⟩
    rw [h1', h2] at this
    cases this
  | t :: ts, [], l, ⟨hf, q, h3, _⟩, ⟨_, r, h1, h2⟩ => by
    have h1' : l = r := h1
    have := rdy_of (l := l) (t := t) (hf t (by simp)) ⟨cat ts ++ q, by rw [h3]; simp [cat]⟩
    rw [h1', h2] at this
    cases this
  | t :: ts, u :: us, l, ⟨hf, r, h1, h2⟩, ⟨hg, q, h3, h4⟩ => by
    have e1 := rdy_of (l := l) (t := t) (hf t (by simp)) ⟨cat ts ++ r, by rw [h1]; simp [cat]⟩
    have e2 := rdy_of (l := l) (t := u) (hg u (by simp)) ⟨cat us ++ q, by rw [h3]; simp [cat]⟩
    rw [e1] at e2
    injection e2 with e2
    subst e2
    have e : cat ts ++ r = cat us ++ q := by
      have := h1.symm.trans h3
      simp only [cat, List.append_assoc] at this
      exact List.append_cancel_left this
    have := holds_unique (ts := ts) (us := us) (l := cat ts ++ r) ⟨fun x hx => hf x (by simp [hx]), r, rfl, h2⟩ ⟨fun x hx => hg x (by simp [hx]), q, e, h4⟩
    rw [this]
/-- Where record k begins. -/
def atE (ts : List ByteArray) (k : Nat) : Nat := (cat (ts.take k)).length
theorem atE_zero (ts : List ByteArray) : atE ts 0 = 0 := rfl
theorem atE_full (ts : List ByteArray) : atE ts ts.length = (cat ts).length := by unfold atE; rw [List.take_length]
theorem atE_succ {ts : List ByteArray} {k : Nat} (h : k < ts.length) : atE ts (k + 1) = atE ts k + (rcd ts[k]).size := by
  unfold atE
  rw [List.take_succ_eq_append_getElem h, cat_append, List.length_append, cat_one, len_toList]
theorem cat_split (ts : List ByteArray) (k : Nat) : cat ts = cat (ts.take k) ++ cat (ts.drop k) := by rw [← cat_append, List.take_append_drop]
theorem atE_le (ts : List ByteArray) (k : Nat) : atE ts k ≤ (cat ts).length := by
  unfold atE; rw [cat_split ts k, List.length_append]; omega
theorem Holds.le {l : List UInt8} {ts : List ByteArray} (h : Holds l ts) (k : Nat) : atE ts k ≤ l.length := by
  obtain ⟨_, r, h1, _⟩ := h
  have := atE_le ts k
  rw [h1, List.length_append]; omega
theorem Holds.drop {l : List UInt8} {ts : List ByteArray} (h : Holds l ts) (k : Nat) : Holds (l.drop (atE ts k)) (ts.drop k) := by
  obtain ⟨hf, r, h1, h2⟩ := h
  refine ⟨fun x hx => hf x (List.mem_of_mem_drop hx), r, ?_, h2⟩
  rw [h1, cat_split ts k]
  unfold atE
  rw [List.append_assoc, List.drop_left]
theorem Holds.next {l : List UInt8} {ts : List ByteArray} (h : Holds l ts) {k : Nat} (hk : k < ts.length) : rdy (l.drop (atE ts k)) = some ts[k] := by
  obtain ⟨hf, r, h1, _⟩ := h.drop k
  rw [List.drop_eq_getElem_cons hk] at h1
  exact rdy_of (h.fits _ (List.getElem_mem hk)) ⟨cat (ts.drop (k + 1)) ++ r, by rw [h1]; simp [cat]⟩
theorem Holds.last {l : List UInt8} {ts : List ByteArray} (h : Holds l ts) : rdy (l.drop (atE ts ts.length)) = none := by
  obtain ⟨_, r, h1, h2⟩ := h.drop ts.length
  rw [List.drop_length] at h1
  rw [h1]; exact h2
theorem cat_five : ∀ {ts : List ByteArray}, Fits ts → 5 * ts.length ≤ (cat ts).length
  | [], _ => by simp
  | t :: ts, h => by
    have := cat_five (ts := ts) fun x hx => h x (by simp [hx])
    rw [cat, List.length_append, len_toList, rcd_size (h t (by simp)), List.length_cons]; omega
theorem Holds.few {l : List UInt8} {ts : List ByteArray} (h : Holds l ts) : 5 * ts.length ≤ l.length := by
  have h1 := cat_five h.fits
  have h2 := h.le ts.length
  rw [atE_full] at h2; omega
theorem Holds.fit {l : List UInt8} {ts : List ByteArray} (h : Holds l ts) {k : Nat} (hk : k < ts.length) : ts[k].size ≤ 60 := h.fits _ (List.getElem_mem hk)
/-- A place at which a log is read: what stands there with its size. -/
theorem step_some {s t : ByteArray} {a : Nat} (h : rdy (s.data.toList.drop a) = some t) : tk s ((a + 4 : Nat) : Int) = (t, ((a + (rcd t).size : Nat) : Int)) ∧ s.extract a (a + (rcd t).size) = rcd t ∧ t.size ≤ 60 ∧ a + (rcd t).size ≤ s.size := by
  obtain ⟨h1, r, h2⟩ := rdy_some h
  have hs := rcd_size h1
  have hlen : (s.data.toList.drop a).length = 5 + t.size + r.length := by rw [← h2, List.length_append, len_toList, hs]
  rw [List.length_drop, len_toList] at hlen
  have hd : s.data.toList.drop (a + 4) = pl t ++ r := by
    rw [← List.drop_drop, ← h2, rcd_list h1, pl_small h1, List.append_assoc, List.drop_append_of_le_length (by rw [h4_length]; exact Nat.le_refl _), List.drop_of_length_le (by rw [h4_length]; exact Nat.le_refl _)]
    rfl
  have hp : (pl t).length = 1 + t.size := by rw [pl_small h1, List.length_cons, len_toList]; omega
  obtain ⟨e1, _⟩ := tk_of hd (by omega)
  refine ⟨?_, ?_, h1, by omega⟩
  · rw [e1, hp, hs]
    rw [show a + 4 + (1 + t.size) = a + (5 + t.size) from by omega]
  · refine list_inj ?_
    rw [take_ext, ← h2, show a + (rcd t).size - a = (rcd t).data.toList.length from by rw [len_toList]; omega, List.take_left]
theorem tk_far (s : ByteArray) (a : Nat) (h : s.size ≤ a) : tk s (a : Int) = (⟨#[]⟩, -1) := by
  refine tk_none s a ?_
  have := (rvAt_bound s a).1
  omega
theorem tk_ge (s : ByteArray) (a : Nat) : (tk s (a : Int)).2 = -1 ∨ (a : Int) ≤ (tk s (a : Int)).2 ∧ (tk s (a : Int)).2 ≤ (s.size : Int) := by
  unfold tk
  split
  · exact .inl rfl
  · rename_i h
    have := rvAt_bound s (a : Int).toNat
    exact .inr ⟨by show (a : Int) ≤ (a : Int) + _ + _; omega, by show (a : Int) + _ + _ ≤ (s.size : Int); omega⟩
theorem step_none {s t : ByteArray} {a e : Nat} (h : rdy (s.data.toList.drop a) = none) (ht : rcd t = s.extract a e) : (rcd t).size = 0 := by
  by_cases h1 : t.size ≤ 60
  · have : rdy (s.data.toList.drop a) = some t := rdy_of h1 ⟨(s.data.toList.drop a).drop (e - a), by rw [ht, take_ext, List.take_append_drop]⟩
    rw [h] at this; cases this
  · rw [rcd_no (by omega)]; rfl
/-- What is read at the head of a log: the text, and the size of its record. -/
def ra (l : List UInt8) : ByteArray × Nat := match rdy l with
  | some t => (t, (rcd t).size)
  | none => (⟨#[]⟩, 0)
theorem ra_some {l : List UInt8} {t : ByteArray} (h : rdy l = some t) : ra l = (t, (rcd t).size) := by unfold ra; rw [h]
theorem ra_none {l : List UInt8} (h : rdy l = none) : ra l = (⟨#[]⟩, 0) := by unfold ra; rw [h]
theorem ra_short (s : ByteArray) (h : s.size < 4) : ra s.data.toList = (⟨#[]⟩, 0) := by
  refine ra_none ?_
  unfold rdy
  rw [List.drop_of_length_le (by rw [len_toList]; omega)]
/-- A text cut out by its count: the record at the head is that of it, or there is none. -/
theorem ra_cut (s : ByteArray) {n : Int} {m : Nat} (hv : rvAt s 4 = (n, m)) (hn : n ≤ (s.size : Int) - (4 + (m : Int))) (t : ByteArray) (ht : t = s.extract (4 + m) (4 + m + n.toNat)) :
    ra s.data.toList = if (rcd t).size = 0 ∨ ¬ (rcd t).data.toList <+: s.data.toList then (⟨#[]⟩, 0) else (t, (rcd t).size) := by
  have hb := rvAt_bound s 4
  rw [hv] at hb
  simp only at hb
  by_cases hc : (rcd t).size = 0 ∨ ¬ (rcd t).data.toList <+: s.data.toList
  · rw [if_pos hc]
    refine ra_none ?_
    cases hr : rdy s.data.toList with
    | none => rfl
    | some u =>
      exfalso
      have hr0 : rdy (s.data.toList.drop 0) = some u := hr
      obtain ⟨e1, _, e3, _⟩ := step_some hr0
      have hs := rcd_size e3
      by_cases hm : m = 0
      · rw [tk_none s (0 + 4) (by rw [hv]; exact hm)] at e1
        have := congrArg Prod.snd e1
        simp only at this
        omega
      · rw [tk_some s (0 + 4) (by rw [hv]; show 0 < m; omega) (by rw [hv]; show n ≤ _; omega)] at e1
        rw [hv] at e1
        have e4 : s.extract (4 + m) (4 + m + n.toNat) = u := congrArg Prod.fst e1
        rw [← ht] at e4
        subst e4
        obtain ⟨h1, h2⟩ := rdy_some hr
        rcases hc with hc | hc
        · omega
        · exact hc h2
  · rw [if_neg hc]
    have h1 : ¬ (rcd t).size = 0 := fun h => hc (.inl h)
    have h2 : (rcd t).data.toList <+: s.data.toList := Classical.byContradiction fun h => hc (.inr h)
    refine ra_some (rdy_of ?_ h2)
    by_cases h3 : t.size ≤ 60
    · exact h3
    · exact absurd (by rw [rcd_no (by omega)]; rfl) h1
theorem ra_less (s : ByteArray) {n : Int} {m : Nat} (hv : rvAt s 4 = (n, m)) (hn : (s.size : Int) - (4 + (m : Int)) < n) : ra s.data.toList = (⟨#[]⟩, 0) := by
  refine ra_none ?_
  cases hr : rdy s.data.toList with
  | none => rfl
  | some u =>
    exfalso
    have hr0 : rdy (s.data.toList.drop 0) = some u := hr
    obtain ⟨e1, _, e3, _⟩ := step_some hr0
    have hs := rcd_size e3
    rw [tk_less s (0 + 4) (by rw [hv]; show _ < n; simp; omega)] at e1
    have := congrArg Prod.snd e1
    simp only at this
    omega
end Go.Proofs.YtdpjlfgfacjfeaaDoor
