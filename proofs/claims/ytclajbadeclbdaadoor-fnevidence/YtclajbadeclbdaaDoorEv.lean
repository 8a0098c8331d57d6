/- Evidence in plain terms: votes that are signed, which two are evidence, which are found first, who is to be blamed; what a list gone through once keeps of each place. No conditions. -/
import Derived.Test.YtclajbadeclbdaaDoorSm
import Derived.Lib.SlicesCompact
namespace Go.Proofs.YtclajbadeclbdaaDoor
open Go.RowKit
open Num
set_option linter.unusedVariables false
structure Sv where
  x : Vt
  s : ByteArray
def zSv : Sv := ⟨zVt, ⟨#[]⟩⟩
def sgB (y : Sv) : Bool := sdB y.x y.s
def plc (a b : Vt) : Bool := decide (a.h = b.h) && (decide (a.r = b.r) && (decide (a.s = b.s) && decide (a.v = b.v)))
def evB (a b : Sv) : Bool := sgB a && (sgB b && (plc a.x b.x && !decide (a.x.i = b.x.i)))
theorem plc_iff {a b : Vt} : plc a b = true ↔ a.h = b.h ∧ a.r = b.r ∧ a.s = b.s ∧ a.v = b.v := by unfold plc; simp
theorem plc_self (a : Vt) : plc a a = true := plc_iff.2 ⟨rfl, rfl, rfl, rfl⟩
theorem plc_comm (a b : Vt) : plc a b = plc b a := by
  rw [Bool.eq_iff_iff, plc_iff, plc_iff]
  constructor <;> (rintro ⟨h1, h2, h3, h4⟩; exact ⟨h1.symm, h2.symm, h3.symm, h4.symm⟩)
theorem plc_trans {a b c : Vt} (h1 : plc a b = true) (h2 : plc b c = true) : plc a c = true := by
  rw [plc_iff] at *; exact ⟨h1.1.trans h2.1, h1.2.1.trans h2.2.1, h1.2.2.1.trans h2.2.2.1, h1.2.2.2.trans h2.2.2.2⟩
theorem plc_v {a b : Vt} (h : plc a b = true) : a.v = b.v := (plc_iff.1 h).2.2.2
theorem evB_iff {a b : Sv} : evB a b = true ↔ sgB a = true ∧ sgB b = true ∧ plc a.x b.x = true ∧ a.x.i ≠ b.x.i := by unfold evB; simp
theorem evB_comm (a b : Sv) : evB a b = evB b a := by
  rw [Bool.eq_iff_iff, evB_iff, evB_iff, plc_comm]
  constructor <;> (rintro ⟨h1, h2, h3, h4⟩; exact ⟨h2, h1, h3, fun e => h4 e.symm⟩)
theorem sgB_bound {y : Sv} (h : sgB y = true) : 1 ≤ y.x.v ∧ y.x.v ≤ 99 := by
  unfold sgB at h
  cases hv : voB y.x with
  | false => rw [sd_no hv] at h; cases h
  | true => exact ((voB_iff y.x).1 hv).2.2.2.2
theorem sgB_pos {y : Sv} (h : sgB y = true) : 1 ≤ y.x.h := by
  unfold sgB at h
  cases hv : voB y.x with
  | false => rw [sd_no hv] at h; cases h
  | true => exact ((voB_iff y.x).1 hv).1.1
/-- The first vote of z that has one behind it that is evidence with it, with the first of these. -/
def fe : List Sv → Int → Option (Sv × Sv)
  | [], _ => none
  | a :: r, z => if a.x.v = z then (match r.find? (evB a) with | some b => some (a, b) | none => fe r z) else fe r z
theorem fe_other {a : Sv} {r : List Sv} {z : Int} (h : a.x.v ≠ z) : fe (a :: r) z = fe r z := by simp [fe, h]
theorem fe_none {a : Sv} {r : List Sv} {z : Int} (h : r.find? (evB a) = none) : fe (a :: r) z = fe r z := by simp [fe, h]
theorem fe_some {a b : Sv} {r : List Sv} {z : Int} (hz : a.x.v = z) (h : r.find? (evB a) = some b) : fe (a :: r) z = some (a, b) := by simp [fe, h, hz]
theorem fe_ok : ∀ {l : List Sv} {z : Int} {a b : Sv}, fe l z = some (a, b) → evB a b = true ∧ a.x.v = z
  | [], z, a, b, h => by cases h
  | y :: r, z, a, b, h => by
    by_cases hz : y.x.v = z
    · cases hf : r.find? (evB y) with
      | none => rw [fe_none hf] at h; exact fe_ok h
      | some u =>
        rw [fe_some hz hf] at h
        injection h with h; injection h with h1 h2
        subst h1; subst h2
        exact ⟨List.find?_some hf, hz⟩
    · rw [fe_other hz] at h; exact fe_ok h
theorem fe_is : ∀ {l : List Sv} {z : Int} {i k : Nat} (hi : i < k) (hk : k < l.length), evB l[i] l[k] = true → l[i].x.v = z → (fe l z).isSome = true
  | [], z, i, k, hi, hk, h, hz => absurd hk (Nat.not_lt_zero _)
  | y :: r, z, 0, 0, hi, hk, h, hz => absurd hi (Nat.lt_irrefl _)
  | y :: r, z, 0, k + 1, hi, hk, h, hz => by
    have hk' : k < r.length := by simpa using hk
    cases hf : r.find? (evB y) with
    | none => exact absurd h (by simpa using List.find?_eq_none.1 hf r[k] (List.getElem_mem ..))
    | some u => rw [fe_some (by simpa using hz) hf]; rfl
  | y :: r, z, i + 1, 0, hi, hk, h, hz => absurd hi (by omega)
  | y :: r, z, i + 1, k + 1, hi, hk, h, hz => by
    have ih := fe_is (l := r) (z := z) (i := i) (k := k) (by omega) (by simpa using hk) (by simpa using h) (by simpa using hz)
    by_cases hz : y.x.v = z
    · cases hf : r.find? (evB y) with
      | none => rw [fe_none hf]; exact ih
      | some u => rw [fe_some hz hf]; rfl
    · rw [fe_other hz]; exact ih
theorem fe_bound {l : List Sv} {z : Int} (h : (fe l z).isSome = true) : 1 ≤ z ∧ z ≤ 99 := by
  obtain ⟨⟨a, b⟩, hab⟩ := Option.isSome_iff_exists.1 h
  obtain ⟨h1, h2⟩ := fe_ok hab
  rw [← h2]; exact sgB_bound (evB_iff.1 h1).1
theorem find_congr {α : Type} {p q : α → Bool} : ∀ {l : List α}, (∀ u ∈ l, p u = q u) → l.find? p = l.find? q
  | [], _ => rfl
  | a :: r, h => by
    rw [List.find?_cons, List.find?_cons, h a (by simp), find_congr (fun u hu => h u (by simp [hu]))]
/-- Votes that no look can hit may be left out of a search. -/
theorem find_filter {p q : Sv → Bool} : ∀ (l : List Sv), (∀ u ∈ l, q u = false → p u = false) → (l.filter q).find? p = l.find? p
  | [], _ => rfl
  | a :: r, h => by
    have ih := find_filter (p := p) (q := q) r (fun u hu => h u (by simp [hu]))
    cases hq : q a with
    | true => rw [List.filter_cons_of_pos hq, List.find?_cons, List.find?_cons, ih]
    | false => rw [List.filter_cons_of_neg (by simp [hq]), List.find?_cons, h a (by simp) hq]; exact ih
/-- A place at which nobody of z is to be found may be left out. -/
theorem fe_filter (x : Vt) (z : Int) : ∀ (r : List Sv), (∀ t ∈ r, plc x t.x = true → t.x.v ≠ z ∨ ∀ u ∈ r, evB t u = false) → fe (r.filter fun t => !plc x t.x) z = fe r z
  | [], _ => rfl
  | a :: r, h => by
    have ih := fe_filter x z r (fun t ht hp => (h t (by simp [ht]) hp).imp id (fun H u hu => H u (by simp [hu])))
    cases hp : plc x a.x with
    | true =>
      rw [List.filter_cons_of_neg (by simp [hp]), ih]
      rcases h a (by simp) hp with hv | hn
      · rw [fe_other hv]
      · rw [fe_none (List.find?_eq_none.2 fun u hu => by simp [hn u (by simp [hu])])]
    | false =>
      rw [List.filter_cons_of_pos (by simp [hp])]
      have hf : (r.filter fun t => !plc x t.x).find? (evB a) = r.find? (evB a) := find_filter r fun u hu hq => by
        cases he : evB a u with
        | false => rfl
        | true =>
          have hu2 : plc x u.x = true := by simpa using hq
          have := plc_trans hu2 ((plc_comm _ _).trans (evB_iff.1 he).2.2.1)
          rw [hp] at this; cases this
      by_cases hz : a.x.v = z
      · cases hg : r.find? (evB a) with
        | none => rw [fe_none (hf.trans hg), fe_none hg]; exact ih
        | some u => rw [fe_some hz (hf.trans hg), fe_some hz hg]
      · rw [fe_other hz, fe_other hz]; exact ih
/-- What is kept of a place: its first vote, and the first one behind it that is unlike it, if any. -/
abbrev Ent := Sv × Option Sv
def inF (F : List Ent) (x : Vt) : Bool := F.any fun e => plc e.1.x x
def upd (s : Sv) (e : Ent) : Ent := bif e.2.isNone && evB e.1 s then (e.1, some s) else e
def stepE (F : List Ent) (s : Sv) : List Ent := bif sgB s then (bif inF F s.x then F.map (upd s) else F ++ [(s, none)]) else F
def GF (F : List Ent) : Prop := (∀ e ∈ F, sgB e.1 = true) ∧ F.Pairwise fun e e' => plc e.1.x e'.1.x = false
theorem upd_fst (s : Sv) (e : Ent) : (upd s e).1 = e.1 := by unfold upd; cases e.2.isNone && evB e.1 s <;> rfl
theorem inF_map (s : Sv) (F : List Ent) (x : Vt) : inF (F.map (upd s)) x = inF F x := by unfold inF; rw [List.any_map]; congr 1; funext e; simp [upd_fst]
theorem inF_snoc (F : List Ent) (e : Ent) (x : Vt) : inF (F ++ [e]) x = (inF F x || plc e.1.x x) := by unfold inF; simp
theorem stepE_no {F : List Ent} {s : Sv} (h : sgB s = false) : stepE F s = F := by unfold stepE; rw [h]; rfl
theorem stepE_old {F : List Ent} {s : Sv} (h : sgB s = true) (hi : inF F s.x = true) : stepE F s = F.map (upd s) := by unfold stepE; rw [h, hi]; rfl
theorem stepE_new {F : List Ent} {s : Sv} (h : sgB s = true) (hi : inF F s.x = false) : stepE F s = F ++ [(s, none)] := by unfold stepE; rw [h, hi]; rfl
theorem GF.nil : GF [] := ⟨by simp, List.Pairwise.nil⟩
theorem GF.step {F : List Ent} (h : GF F) (s : Sv) : GF (stepE F s) := by
  cases hs : sgB s with
  | false => rw [stepE_no hs]; exact h
  | true =>
    cases hi : inF F s.x with
    | true =>
      rw [stepE_old hs hi]
      refine ⟨fun e he => ?_, ?_⟩
      · obtain ⟨e0, h0, rfl⟩ := List.mem_map.1 he
        rw [upd_fst]; exact h.1 e0 h0
      · rw [List.pairwise_map]
        exact h.2.imp fun {a b} hab => by rw [upd_fst, upd_fst]; exact hab
    | false =>
      rw [stepE_new hs hi]
      refine ⟨fun e he => ?_, List.pairwise_append.2 ⟨h.2, List.pairwise_singleton _ _, fun a ha b hb => ?_⟩⟩
      · rcases List.mem_append.1 he with he | he
        · exact h.1 e he
        · rw [List.mem_singleton] at he; subst he; exact hs
      · rw [List.mem_singleton] at hb; subst hb
        have := List.any_eq_false.1 hi a ha
        simpa using this
theorem GF.fold : ∀ {l : List Sv} {F : List Ent}, GF F → GF (l.foldl stepE F)
  | [], _, h => h
  | s :: r, _, h => GF.fold (l := r) (h.step s)
def comp (r : List Sv) (e : Ent) : Ent := (e.1, e.2.or (r.find? (evB e.1)))
/-- The first of z among those with two votes. -/
def fz (z : Int) (F : List Ent) : Option (Sv × Sv) := F.findSome? fun e => match e.2 with | some b => if e.1.x.v = z then some (e.1, b) else none | none => none
theorem fz_append (z : Int) (F G : List Ent) : fz z (F ++ G) = (fz z F).or (fz z G) := by unfold fz; rw [List.findSome?_append]
theorem upd_comp (s : Sv) (r : List Sv) (e : Ent) : comp r (upd s e) = comp (s :: r) e := by
  obtain ⟨a, b⟩ := e
  unfold comp
  rw [upd_fst]
  unfold upd
  cases b with
  | some u => simp
  | none =>
    cases h : evB a s <;> simp [h]
theorem comp_un {s : Sv} (r : List Sv) (e : Ent) (h : evB e.1 s = false) : comp r e = comp (s :: r) e := by
  unfold comp; rw [List.find?_cons, h]
theorem evB_no {a s : Sv} (h : sgB s = false) : evB a s = false := by
  cases he : evB a s with
  | false => rfl
  | true => rw [(evB_iff.1 he).2.1] at h; cases h
theorem evB_place {a s : Sv} (h : plc a.x s.x = false) : evB a s = false := by
  cases he : evB a s with
  | false => rfl
  | true => rw [(evB_iff.1 he).2.2.1] at h; cases h
theorem fe_unsigned {s : Sv} (r : List Sv) (z : Int) (h : sgB s = false) : fe (s :: r) z = fe r z := by
  by_cases hz : s.x.v = z
  · rw [fe_none (List.find?_eq_none.2 fun u hu => ?_)]
    intro he; rw [(evB_iff.1 he).1] at h; cases h
  · rw [fe_other hz]
theorem main_fold (z : Int) : ∀ (r : List Sv) (F : List Ent), GF F → fz z (r.foldl stepE F) = (fz z (F.map (comp r))).or (fe (r.filter fun s => !inF F s.x) z)
  | [], F, h => by
    have e : F.map (comp []) = F := by
      conv => rhs; rw [← List.map_id F]
      refine List.map_congr_left fun e _ => ?_
      obtain ⟨a, b⟩ := e
      cases b <;> rfl
    rw [e]; simp [fe]
  | s :: r, F, h => by
    rw [List.foldl_cons, main_fold z r _ (h.step s)]
    cases hs : sgB s with
    | false =>
      rw [stepE_no hs]
      have e1 : F.map (comp r) = F.map (comp (s :: r)) := List.map_congr_left fun e _ => comp_un r e (evB_no hs)
      rw [e1]
      congr 1
      cases hi : inF F s.x with
      | true => rw [List.filter_cons_of_neg (by simp [hi])]
      | false => rw [List.filter_cons_of_pos (by simp [hi]), fe_unsigned _ _ hs]
    | true =>
      cases hi : inF F s.x with
      | true =>
        rw [stepE_old hs hi, List.map_map, List.filter_cons_of_neg (by simp [hi])]
        have e1 : (F.map (comp r ∘ upd s)) = F.map (comp (s :: r)) := List.map_congr_left fun e _ => upd_comp s r e
        rw [e1]
        congr 2
        refine List.filter_congr fun u _ => ?_
        rw [inF_map]
      | false =>
        rw [stepE_new hs hi, List.map_append, fz_append, List.filter_cons_of_pos (by simp [hi])]
        have e1 : F.map (comp r) = F.map (comp (s :: r)) := List.map_congr_left fun e he => comp_un r e (evB_place (by simpa using List.any_eq_false.1 hi e he))
        rw [e1, Option.or_assoc]
        congr 1
        have e2 : (r.filter fun u => !inF (F ++ [(s, none)]) u.x) = (r.filter fun u => !inF F u.x).filter fun u => !plc s.x u.x := by
          rw [List.filter_filter]
          refine List.filter_congr fun u _ => ?_
          rw [inF_snoc]; cases inF F u.x <;> cases plc s.x u.x <;> rfl
        rw [e2]
        have e3 : (r.filter fun u => !inF F u.x).find? (evB s) = r.find? (evB s) := find_filter r fun u hu hq => by
          refine evB_place ?_
          cases hp : plc s.x u.x with
          | false => rfl
          | true =>
            have hq' : inF F u.x = true := by simpa using hq
            obtain ⟨e, he, hpe⟩ := List.any_eq_true.1 hq'
            have : inF F s.x = true := List.any_eq_true.2 ⟨e, he, plc_trans hpe ((plc_comm _ _).trans hp)⟩
            rw [hi] at this; cases this
        generalize (r.filter fun u => !inF F u.x) = R at *
        have e4 : List.map (comp r) [(s, none)] = [(s, r.find? (evB s))] := rfl
        rw [e4, ← e3]
        cases hf : R.find? (evB s) with
        | none =>
          have : fz z [(s, (none : Option Sv))] = none := rfl
          rw [this, Option.none_or, fe_none hf]
          refine fe_filter s.x z R fun t ht hp => .inr fun u hu => ?_
          cases he : evB t u with
          | false => rfl
          | true =>
            obtain ⟨h1, h2, h3, h4⟩ := evB_iff.1 he
            have a1 := List.find?_eq_none.1 hf t ht
            have a2 := List.find?_eq_none.1 hf u hu
            rw [evB_iff] at a1 a2
            have b1 : s.x.i = t.x.i := by
              by_cases e : s.x.i = t.x.i
              · exact e
              · exact absurd ⟨hs, h1, hp, e⟩ a1
            have b2 : s.x.i = u.x.i := by
              by_cases e : s.x.i = u.x.i
              · exact e
              · exact absurd ⟨hs, h2, plc_trans hp h3, e⟩ a2
            exact absurd (b1.symm.trans b2) h4
        | some b =>
          by_cases hz : s.x.v = z
          · have : fz z [(s, some b)] = some (s, b) := by simp [fz, hz]
            rw [this, fe_some hz hf]; rfl
          · have : fz z [(s, some b)] = none := by simp [fz, hz]
            rw [this, Option.none_or, fe_other hz]
            exact fe_filter s.x z R fun t ht hp => .inl fun e => hz ((plc_v hp).trans e)
/-- All that is kept of a list. -/
def evs (l : List Sv) : List Ent := l.foldl stepE []
theorem evs_fe (l : List Sv) (z : Int) : fz z (evs l) = fe l z := by
  have := main_fold z l [] GF.nil
  rw [show evs l = l.foldl stepE [] from rfl, this]
  have e : (l.filter fun s => !inF [] s.x) = l := by rw [List.filter_eq_self]; intro _ _; rfl
  rw [e]; rfl
theorem evs_good (l : List Sv) : GF (evs l) := GF.fold GF.nil
theorem evs_step {l : List Sv} {k : Nat} (h : k < l.length) : evs (l.take (k + 1)) = stepE (evs (l.take k)) l[k] := by
  unfold evs; rw [List.take_succ_eq_append_getElem h, List.foldl_append]; rfl
theorem evs_all {l : List Sv} {k : Nat} (h : l.length ≤ k) : evs (l.take k) = evs l := by rw [List.take_of_length_le h]
theorem evs_len (l : List Sv) : (evs l).length ≤ l.length := by
  have : ∀ (r : List Sv) (F : List Ent), (r.foldl stepE F).length ≤ F.length + r.length := by
    intro r
    induction r with
    | nil => intro F; exact Nat.le_refl _
    | cons s r ih =>
      intro F
      rw [List.foldl_cons, List.length_cons]
      have h1 := ih (stepE F s)
      have h2 : (stepE F s).length ≤ F.length + 1 := by
        cases hs : sgB s with
        | false => rw [stepE_no hs]; omega
        | true =>
          cases hi : inF F s.x with
          | true => rw [stepE_old hs hi, List.length_map]; omega
          | false => rw [stepE_new hs hi, List.length_append]; simp
      omega
  have := this l []
  simpa [evs] using this
/-- Those with two votes. -/
def full (F : List Ent) : List Ent := F.filter fun e => e.2.isSome
theorem fz_full (z : Int) : ∀ (F : List Ent), fz z (full F) = fz z F
  | [] => rfl
  | (a, none) :: F => by
    show fz z (full F) = fz z F
    exact fz_full z F
  | (a, some b) :: F => by
    have ih := fz_full z F
    have e1 : full ((a, some b) :: F) = (a, some b) :: full F := rfl
    rw [e1]
    by_cases hz : a.x.v = z <;> simp only [fz, List.findSome?_cons, hz, if_true, if_false]
    exact ih
/-- The row that is met: at j, the others are as they are. -/
theorem map_upd {F : List Ent} (h : GF F) {s : Sv} (hs : sgB s = true) {j : Nat} (hj : j < F.length) (hp : plc F[j].1.x s.x = true) :
    F.map (upd s) = (bif F[j].2.isNone && !decide (F[j].1.x.i = s.x.i) then F.set j (F[j].1, some s) else F) := by
  have hev : evB F[j].1 s = !decide (F[j].1.x.i = s.x.i) := by
    unfold evB; rw [h.1 _ (List.getElem_mem ..), hs, hp]; simp
  have hoth : ∀ k (hk : k < F.length), k ≠ j → upd s F[k] = F[k] := by
    intro k hk hne
    have hpk : plc F[k].1.x s.x = false := by
      cases hpk : plc F[k].1.x s.x with
      | false => rfl
      | true =>
        have h1 : plc F[k].1.x F[j].1.x = true := plc_trans hpk ((plc_comm _ _).trans hp)
        rcases Nat.lt_or_gt_of_ne hne with hlt | hgt
        · have := List.pairwise_iff_getElem.1 h.2 k j hk hj hlt
          rw [h1] at this; cases this
        · have := List.pairwise_iff_getElem.1 h.2 j k hj hk hgt
          rw [plc_comm, h1] at this; cases this
    unfold upd; rw [evB_place hpk, Bool.and_false]; rfl
  rw [← hev]
  have hu : upd s F[j] = bif F[j].2.isNone && evB F[j].1 s then (F[j].1, some s) else F[j] := rfl
  cases hc : F[j].2.isNone && evB F[j].1 s with
  | false =>
    rw [hc] at hu
    refine List.ext_getElem (by simp) fun k h1 h2 => ?_
    have hk : k < F.length := by simpa using h1
    rw [List.getElem_map]
    by_cases e : k = j
    · subst e; rw [hu]; rfl
    · rw [hoth k hk e]; rfl
  | true =>
    rw [hc] at hu
    refine List.ext_getElem (by simp) fun k h1 h2 => ?_
    have hk : k < F.length := by simpa using h1
    rw [List.getElem_map]
    by_cases e : k = j
    · subst e; rw [hu]; simp
    · rw [hoth k hk e]; simp [List.getElem_set_ne (fun e' => e e'.symm)]
/-- Where a place stands. -/
theorem inF_at {F : List Ent} {x : Vt} (h : inF F x = true) : ∃ j, ∃ hj : j < F.length, plc F[j].1.x x = true := by
  obtain ⟨e, he, hp⟩ := List.any_eq_true.1 h
  obtain ⟨j, hj, rfl⟩ := List.mem_iff_getElem.1 he
  exact ⟨j, hj, hp⟩
/-- Those whom a question hits, from 1 on. -/
def upN (p : Int → Bool) : Nat → List Int
  | 0 => []
  | k + 1 => bif p ((k : Int) + 1) then upN p k ++ [(k : Int) + 1] else upN p k
theorem upN_yes {p : Int → Bool} {k : Nat} (h : p ((k : Int) + 1) = true) : upN p (k + 1) = upN p k ++ [(k : Int) + 1] := by simp [upN, h]
theorem upN_no {p : Int → Bool} {k : Nat} (h : p ((k : Int) + 1) = false) : upN p (k + 1) = upN p k := by simp [upN, h]
theorem upN_len (p : Int → Bool) : ∀ n, (upN p n).length ≤ n
  | 0 => Nat.le_refl _
  | k + 1 => by
    have := upN_len p k
    cases h : p ((k : Int) + 1) with
    | false => rw [upN_no h]; omega
    | true => rw [upN_yes h, List.length_append]; simp; omega
theorem upN_mem (p : Int → Bool) : ∀ (n : Nat) (z : Int), z ∈ upN p n ↔ 1 ≤ z ∧ z ≤ (n : Int) ∧ p z = true
  | 0, z => by simp [upN]; omega
  | k + 1, z => by
    have ih := upN_mem p k z
    cases h : p ((k : Int) + 1) with
    | false =>
      rw [upN_no h, ih]
      constructor
      · rintro ⟨h1, h2, h3⟩; exact ⟨h1, by omega, h3⟩
      · rintro ⟨h1, h2, h3⟩
        refine ⟨h1, ?_, h3⟩
        by_cases e : z = (k : Int) + 1
        · rw [e, h] at h3; cases h3
        · omega
    | true =>
      rw [upN_yes h, List.mem_append, ih, List.mem_singleton]
      constructor
      · rintro (⟨h1, h2, h3⟩ | rfl)
        · exact ⟨h1, by omega, h3⟩
        · exact ⟨by omega, by omega, h⟩
      · rintro ⟨h1, h2, h3⟩
        by_cases e : z = (k : Int) + 1
        · exact .inr e
        · exact .inl ⟨h1, by omega, h3⟩
theorem upN_sorted (p : Int → Bool) : ∀ n, (upN p n).Pairwise (· < ·)
  | 0 => List.Pairwise.nil
  | k + 1 => by
    have ih := upN_sorted p k
    cases h : p ((k : Int) + 1) with
    | false => rw [upN_no h]; exact ih
    | true =>
      rw [upN_yes h]
      refine List.pairwise_append.2 ⟨ih, List.pairwise_singleton _ _, fun a ha b hb => ?_⟩
      rw [List.mem_singleton] at hb
      have := ((upN_mem p k a).1 ha).2.1
      omega
/-- Who is to be blamed. -/
def bl (l : List Sv) : List Int := upN (fun z => (fe l z).isSome) 99
theorem bl_mem (l : List Sv) (z : Int) : z ∈ bl l ↔ (fe l z).isSome = true := by
  unfold bl; rw [upN_mem]
  exact ⟨fun h => h.2.2, fun h => ⟨(fe_bound h).1, (fe_bound h).2, h⟩⟩
theorem bl_len (l : List Sv) : (bl l).length ≤ 99 := upN_len _ _
def culp (F : List Ent) : List Int := (full F).map fun e => e.1.x.v
theorem culp_mem (F : List Ent) (z : Int) : z ∈ culp F ↔ (fz z F).isSome = true := by
  rw [← fz_full]
  unfold culp
  have hall : ∀ e ∈ full F, e.2.isSome = true := fun e he => (List.mem_filter.1 he).2
  generalize full F = G at *
  unfold fz
  rw [List.mem_map, List.findSome?_isSome_iff]
  constructor
  · rintro ⟨e, he, rfl⟩
    refine ⟨e, he, ?_⟩
    have := hall e he
    obtain ⟨a, b⟩ := e
    cases b with
    | none => cases this
    | some u => simp
  · rintro ⟨e, he, hs⟩
    refine ⟨e, he, ?_⟩
    obtain ⟨a, b⟩ := e
    cases b with
    | none => cases hs
    | some u =>
      by_cases h : a.x.v = z
      · exact h
      · simp [h] at hs
theorem culp_bl (l : List Sv) (z : Int) : z ∈ culp (evs l) ↔ z ∈ bl l := by rw [culp_mem, evs_fe, bl_mem]
end Go.Proofs.YtclajbadeclbdaaDoor
