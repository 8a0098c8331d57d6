/- Who signed a commit: in plain terms; what signersOf answers: a map that has just those; old memory stays. Conditions: rows that a machine can hold, the table. -/
import Derived.Test.YtajfmjgaaapjeaaGreatDoorG5
import Derived.Test.YtajfmjgaaapjeaaGreatDoorSi
import Derived.Maps.RangeWalk
import Derived.Maps.Ext
namespace Go.Proofs.YtajfmjgaaapjeaaGreatDoor
open Go.RowKit Go.Maps
open Num
set_option linter.unusedVariables false
def sgOne (x : Ct) (z : Int) (y : Sg) : Bool := decide (y.v = z) && sdB ⟨x.h, x.r, 2, x.i, z⟩ y.s
/-- Has z signed it, among the first k? -/
def sgdN (x : Ct) (k : Nat) (z : Int) : Bool := (x.l.take k).any (sgOne x z)
def sgd (x : Ct) (z : Int) : Bool := x.l.any (sgOne x z)
theorem sgdN_all {x : Ct} {k : Nat} (h : x.l.length ≤ k) (z : Int) : sgdN x k z = sgd x z := by unfold sgdN sgd; rw [List.take_of_length_le h]
theorem sgdN_succ {x : Ct} {k : Nat} (h : k < x.l.length) (z : Int) : sgdN x (k + 1) z = (sgdN x k z || sgOne x z x.l[k]) := by
  unfold sgdN; rw [List.take_succ_eq_append_getElem h, List.any_append]; simp
theorem sdB_bound {x : Vt} {t : ByteArray} (h : sdB x t = true) : 1 ≤ x.v ∧ x.v ≤ 99 := by
  cases hv : voB x with
  | false => rw [sd_no hv] at h; cases h
  | true => exact ((voB_iff x).1 hv).2.2.2.2
theorem sgd_bound {x : Ct} {z : Int} (h : sgd x z = true) : 1 ≤ z ∧ z ≤ 99 := by
  unfold sgd at h
  obtain ⟨y, _, hy⟩ := List.any_eq_true.1 h
  unfold sgOne at hy
  rw [Bool.and_eq_true] at hy
  exact sdB_bound hy.2
def cvN (x : Ct) : Nat → List Int
  | 0 => []
  | k + 1 => bif sgd x ((k : Int) + 1) then cvN x k ++ [(k : Int) + 1] else cvN x k
theorem cvN_yes {x : Ct} {k : Nat} (h : sgd x ((k : Int) + 1) = true) : cvN x (k + 1) = cvN x k ++ [(k : Int) + 1] := by simp [cvN, h]
theorem cvN_no {x : Ct} {k : Nat} (h : sgd x ((k : Int) + 1) = false) : cvN x (k + 1) = cvN x k := by simp [cvN, h]
theorem cvN_len (x : Ct) : ∀ n, (cvN x n).length ≤ n
  | 0 => Nat.le_refl _
  | k + 1 => by
    have := cvN_len x k
    cases h : sgd x ((k : Int) + 1) with
    | false => rw [cvN_no h]; omega
    | true => rw [cvN_yes h, List.length_append]; simp; omega
theorem cvN_mem (x : Ct) : ∀ (n : Nat) (z : Int), z ∈ cvN x n ↔ 1 ≤ z ∧ z ≤ (n : Int) ∧ sgd x z = true
  | 0, z => by simp [cvN]; omega
  | k + 1, z => by
    have ih := cvN_mem x k z
    cases h : sgd x ((k : Int) + 1) with
    | false =>
      rw [cvN_no h, ih]
      constructor
      · rintro ⟨h1, h2, h3⟩; exact ⟨h1, by omega, h3⟩
      · rintro ⟨h1, h2, h3⟩
        refine ⟨h1, ?_, h3⟩
        by_cases e : z = (k : Int) + 1
        · rw [e, h] at h3; cases h3
        · omega
    | true =>
      rw [cvN_yes h, List.mem_append, ih, List.mem_singleton]
      constructor
      · rintro (⟨h1, h2, h3⟩ | rfl)
        · exact ⟨h1, by omega, h3⟩
        · exact ⟨by omega, by omega, h⟩
      · rintro ⟨h1, h2, h3⟩
        by_cases e : z = (k : Int) + 1
        · exact .inr e
        · exact .inl ⟨h1, by omega, h3⟩
theorem cvN_sorted (x : Ct) : ∀ n, (cvN x n).Pairwise (· < ·)
  | 0 => List.Pairwise.nil
  | k + 1 => by
    have ih := cvN_sorted x k
    cases h : sgd x ((k : Int) + 1) with
    | false => rw [cvN_no h]; exact ih
    | true =>
      rw [cvN_yes h]
      refine List.pairwise_append.2 ⟨ih, List.pairwise_singleton _ _, fun a ha b hb => ?_⟩
      rw [List.mem_singleton] at hb
      have := ((cvN_mem x k a).1 ha).2.1
      omega
/-- The validators that signed, rising. -/
def cv (x : Ct) : List Int := if 12 < x.l.length then [] else cvN x 99
theorem cv_many {x : Ct} (h : 12 < x.l.length) : cv x = [] := by unfold cv; rw [if_pos h]
theorem cv_few {x : Ct} (h : x.l.length ≤ 12) : cv x = cvN x 99 := by unfold cv; rw [if_neg (by omega)]
theorem cv_len (x : Ct) : (cv x).length ≤ 99 := by
  by_cases h : 12 < x.l.length
  · rw [cv_many h]; show 0 ≤ 99; omega
  · rw [cv_few (by omega)]; exact cvN_len x 99
theorem cv_sort {x : Ct} {zs : List Int} (hnd : zs.Nodup) (hm : ∀ z, z ∈ zs ↔ sgd x z = true) : zs.mergeSort (fun x y => decide (x ≤ y)) = cvN x 99 := by
  have tr : ∀ a b c : Int, decide (a ≤ b) = true → decide (b ≤ c) = true → decide (a ≤ c) = true := fun a b c h1 h2 => by simp only [decide_eq_true_eq] at *; omega
  have to : ∀ a b : Int, (decide (a ≤ b) || decide (b ≤ a)) = true := fun a b => by simp only [Bool.or_eq_true, decide_eq_true_eq]; omega
  have hp : zs.Perm (cvN x 99) := by
    refine (List.perm_ext_iff_of_nodup hnd ((cvN_sorted x 99).imp fun {a b} h => by omega)).2 fun z => ?_
    rw [hm, cvN_mem]
    constructor
    · intro h; have := sgd_bound h; exact ⟨this.1, this.2, h⟩
    · rintro ⟨_, _, h⟩; exact h
  refine List.Perm.eq_of_pairwise (le := fun a b => decide (a ≤ b) = true) (fun a b _ _ h1 h2 => ?_) (List.pairwise_mergeSort tr to zs) ((cvN_sorted x 99).imp fun {a b} h => by simp only [decide_eq_true_eq]; omega) ((List.mergeSort_perm zs _).trans hp)
  simp only [decide_eq_true_eq] at h1 h2
  omega
/-- The keys met so far. -/
def Coll (D0 : DataW Unit) (left : Lit → Bool) (zs : List Int) : Prop := zs.Nodup ∧ ∀ z, z ∈ zs ↔ (has D0 (.int .i64 z) = true ∧ left (.int .i64 z) = false)
theorem coll_start (D0 : DataW Unit) : Coll D0 (has D0) [] := ⟨List.nodup_nil, fun z => by cases has D0 (.int .i64 z) <;> simp⟩
theorem Coll.step {D0 : DataW Unit} {left : Lit → Bool} {zs : List Int} (h : Coll D0 left zs) {z : Int} {y : DataW Unit} (hlk : left (.int .i64 z) = true) (hat : ∀ zd, D0.atKey (.int .i64 z) zd = y) : Coll D0 (fun u => left u && !u.sameKey (.int .i64 z)) (zs ++ [z]) := by
  have hhas : has D0 (.int .i64 z) = true := has_true_of_atKey hat
  have hnew : z ∉ zs := fun hx => by have := ((h.2 z).1 hx).2; rw [hlk] at this; cases this
  refine ⟨List.nodup_append.2 ⟨h.1, by simp, fun a ha b hb => by simp at hb; subst hb; exact fun e => hnew (e ▸ ha)⟩, fun y => ?_⟩
  by_cases hy : y = z
  · subst hy; simp [hhas, Lit.sameKey]
  · simp [h.2 y, hy, Lit.sameKey]
theorem Coll.done {D0 : DataW Unit} {left : Lit → Bool} {zs : List Int} (h : Coll D0 left zs) (hl : ∀ kl, left kl = false) (z : Int) : z ∈ zs ↔ has D0 (.int .i64 z) = true := by
  rw [h.2 z, hl]; simp
theorem law3 : Keyed Tryz.prog 3 := int_keyed Tryz.underlying3
theorem has_put {D : DataW Unit} (hD : IsMap D) (v z : Int) (d : DataW Unit) : has (D.put (.int .i64 v) d) (.int .i64 z) = (decide (v = z) || has D (.int .i64 z)) := by
  by_cases e : v = z
  · subst e
    rw [has_put_same hD (by trivial)]; simp
  · rw [has_put_other (fun e' => e (by injection e' with _ e'; exact e'.symm)), decide_eq_false e, Bool.false_or]
set_option maxHeartbeats 400000 in
set_option maxRecDepth 100000 in
theorem impl_pre (x : Ct) (a : Option Addr) (cap : Nat) (v : Int) (w : World) :
    Calls Tryz.prog 131 #[cV x a cap, .int .i64 v] w fun e w' => e = .returned (tV ⟨x.h, x.r, 2, x.i, v⟩) ∧ Below w.heap.size w w' := by
  obtain ⟨h, r, i, l⟩ := x
  unfold cV tV
  simp only
  go_enter Tryz.func131, Tryz.ntmps131
  go_wp2
  first
    | (go_ret; exact ⟨rfl, below_one _ _⟩)
    | (refine bodyPost_ret (v := .agg #[.int .i64 h, .int .i64 r, .int .i64 2, .string i, .int .i64 v]) (by simp [results, Tryz.results131, go_sem]) rfl ⟨rfl, ?_⟩; first | exact below_one _ _ | exact below_two _ _ _)
theorem grown_of {w w' : World} {r : Option Nat} (h : Below w.heap.size w w') : w.grownBy w' r := ⟨h.os, h.tape, h.output, h.size, fun k hk _ => h.block k hk⟩
set_option maxHeartbeats 1600000 in
set_option maxRecDepth 100000 in
theorem impl_signers (x : Ct) (a : Option Addr) (cap : Nat) (w : World) (hl : SO w a x.l) (h12 : x.l.length ≤ 12) (hT : Tab w) :
    Calls Tryz.prog 118 #[cV x a cap] w fun e w' => e = .returned (.map (some (w.heap.size + 1))) ∧ ∃ D : DataW Unit, w'.ownsMap Tryz.prog 3 unitElem (w.heap.size + 1) x.l.length D ∧ Hid (∀ z, has D (.int .i64 z) = sgd x z) ∧ Below w.heap.size w w' := by
  have HL : Hid (SO w a x.l) := hl
  have HTa : Hid (Tab w) := hT
  clear hl hT
  have hmm := @run_makeMap Tryz.prog
  have HX : Hid (Blk ((w.alloc (.cells (ccs x a cap).toArray 33)).alloc (.map #[] 0)) w.heap.size (ccs x a cap) 33) := (blk_new w _ _).alloc _
  have e1 : (w.alloc (.cells (ccs x a cap).toArray 33)).heap.size = w.heap.size + 1 := by simp
  have HM : Hid (((w.alloc (.cells (ccs x a cap).toArray 33)).alloc (.map #[] 0)).ownsMap (H := Unit) Tryz.prog 3 unitElem (w.heap.size + 1) 0 (.map [])) := by
    have h := World.ownsMap_made (H := Unit) (w.alloc (.cells (ccs x a cap).toArray 33)) Tryz.prog 3 unitElem
    rw [e1] at h; exact h
  have HB : Hid (Below w.heap.size w ((w.alloc (.cells (ccs x a cap).toArray 33)).alloc (.map #[] 0))) := ((Below.refl _ _).alloc (Nat.le_refl _) _).alloc (by simp) _
  clear e1
  have kP := fun v W => impl_pre x a cap v W
  have HS0 : Hid (∀ z, sgdN x 0 z = false) := fun z => by simp [sgdN]
  have HSn : Hid (∀ k z, x.l.length ≤ k → sgdN x k z = sgd x z) := fun k z h => sgdN_all h z
  have HSk : Hid (∀ k (hk : k < x.l.length) z, sgdN x (k + 1) z = (sgdN x k z || (decide (x.l[k].v = z) && sdB ⟨x.h, x.r, 2, x.i, z⟩ x.l[k].s))) := fun k hk z => sgdN_succ hk z
  generalize sgd x = F at *
  generalize sgdN x = G at *
  obtain ⟨h, r, i, l⟩ := x
  unfold cV at *
  unfold ccs tV at *
  simp only at HX HM HB HL kP h12 HSn HSk ⊢
  go_enter Tryz.func118, Tryz.ntmps118
  have x3 := HX.out.cell 3 rfl
  go_wp2
  go_loopw [10] (fun iv wr => ∃ (k : Nat) (D : DataW Unit), k ≤ l.length ∧ iv = .int .i64 k ∧ Hid (wr.ownsMap Tryz.prog 3 unitElem (w.heap.size + 1) k D) ∧ Hid (∀ z, has D (.int .i64 z) = G k z) ∧ Hid (Blk wr w.heap.size [.int .i64 h, .int .i64 r, .string i, .slice a l.length cap] 33) ∧ Hid (Below w.heap.size w wr)) (fun iv _ => l.length - (intOf iv).toNat)
  case atStart => exact ⟨0, .map [], Nat.zero_le _, rfl, HM, (fun z => by rw [HS0.out]; rfl), HX, HB⟩
  case round =>
    obtain ⟨k, D, hk, rfl, HM1, HD, HX1, HB1⟩ := hrel
    clear x3 HX HM HB
    by_cases hlt : k < l.length
    · have hltz : (k : Int) < (l.length : Int) := by omega
      rcases HL.out with h0 | ⟨b, o, rfl, hS⟩
      · omega
      obtain ⟨c1, c2⟩ := (hS.below HB1.out (hS.lt (by omega))) k hlt
      clear hS
      have HK := HSk.out k hlt
      have HK' : Hid (∀ z, G (k + 1) z = (G k z || (decide (l[k].v = z) && sdB ⟨h, r, 2, i, z⟩ l[k].s))) := HK
      clear HK
      generalize l[k] = y at *
      obtain ⟨yv, ys⟩ := y
      simp only at c1 c2 HK'
      have kS := fun W (hT : Tab W) => impl_sd ⟨h, r, 2, i, yv⟩ ys W hT
      unfold tV at kS
      have HSB : Hid (sdB ⟨h, r, 2, i, yv⟩ ys = true → 1 ≤ yv ∧ yv ≤ 99) := fun h => sdB_bound h
      have HK2 : Hid (∀ z, G (k + 1) z = (G k z || (decide (yv = z) && sdB ⟨h, r, 2, i, yv⟩ ys))) := fun z => by
        rw [HK'.out]
        by_cases e : yv = z
        · rw [e]
        · rw [decide_eq_false e, Bool.false_and, Bool.false_and]
      generalize sdB ⟨h, r, 2, i, yv⟩ ys = t at *
      simp only at kS
      obtain ⟨wa, hwa⟩ : ∃ W, wr.alloc (.cells [.int .i64 yv, .string ys].toArray 95) = W := ⟨_, rfl⟩
      have HM2 : Hid (wa.ownsMap Tryz.prog 3 unitElem (w.heap.size + 1) k D) := by rw [← hwa]; exact HM1.out.alloc _
      have HX2 : Hid (Blk wa w.heap.size [.int .i64 h, .int .i64 r, .string i, .slice (some ⟨b, o, none⟩) l.length cap] 33) := by rw [← hwa]; exact HX1.out.alloc _
      have HY2 : Hid (Blk wa wr.heap.size [.int .i64 yv, .string ys] 95) := by rw [← hwa]; exact blk_new wr _ _
      have HB2 : Hid (Below w.heap.size w wa) := by rw [← hwa]; exact HB1.out.alloc HB1.out.size _
      have HT2 : Hid (Tab wa) := HTa.out.below HB2.out HTa.out.pos
      go_wp2_with fail
      clear hwa c1 c2 HK' HM1 HX1 HB1
      have hne := bel_some wa
      have p0 := fun p : Bel wa => p.cell (HX2.out.cell 0 rfl)
      have p1 := fun p : Bel wa => p.cell (HX2.out.cell 1 rfl)
      have p2 := fun p : Bel wa => p.cell (HX2.out.cell 2 rfl)
      have p3 := fun p : Bel wa => p.cell (HX2.out.cell 3 rfl)
      have q0 := fun p : Bel wa => p.cell (HY2.out.cell 0 rfl)
      have q1 := fun p : Bel wa => p.cell (HY2.out.cell 1 rfl)
      refine wp_region_below (by kernel_rfl) (by kernel_rfl) ?_
      repeat (go_big_quiet_step (first | (go_at_call 131; exact bel_of (kP _ _)) | (go_at_call 130; exact bel_of (kS _ (HT2.out.below (Bel.h _) HT2.out.pos)))))
      refine wpQuiet_nil ?_
      intro _ hw'
      obtain ⟨pq, hw''⟩ := hw'
      subst hw''
      have HM3 : Hid (pq.W.ownsMap Tryz.prog 3 unitElem (w.heap.size + 1) k D) := HM2.out.kept (grown_of (r := none) pq.h) (by simp)
      have HX3 : Hid (Blk pq.W w.heap.size [.int .i64 h, .int .i64 r, .string i, .slice (some ⟨b, o, none⟩) l.length cap] 33) := HX2.out.below pq.h HX2.out.lt
      have HY3 : Hid (Blk pq.W wr.heap.size [.int .i64 yv, .string ys] 95) := HY2.out.below pq.h HY2.out.lt
      have HB3 : Hid (Below w.heap.size w pq.W) := HB2.out.trans (pq.h.mono HB2.out.size)
      generalize pq.W = w3 at *
      clear pq p0 p1 p2 p3 q0 q1 hne HM2 HX2 HY2 HB2 HT2
      have q0 := HY3.out.cell 0 rfl
      cases t
      · have HN : Hid (∀ z, has D (.int .i64 z) = G (k + 1) z) := fun z => by rw [HD.out, HK2.out, Bool.and_false, Bool.or_false]
        go_wp2
        go_roundw
        case rel => exact ⟨k + 1, D, by omega, by go_num, HM3.out.mono (by omega), HN, HX3, HB3⟩
        case measure => simp [intOf]; omega
      · have hv := HSB.out (by trivial)
        have hwf : (Lit.int .i64 yv).wf = true := WalkArith.wf_i64 (by omega)
        have HN : Hid (∀ z, has (D.put (.int .i64 yv) (.agg [])) (.int .i64 z) = G (k + 1) z) := fun z => by
          rw [has_put HM3.out.isMap, HK2.out, HD.out, Bool.and_true, Bool.or_comm]
        go_wp2_with (first | (at_mapUpdate; refine wpList_mapUpdate_own _ rfl _ _ _ 159 rfl 3 183 law3 Tryz.underlying159 _ (w.heap.size + 1) _ _ rfl HM3.out (by unfold maxLen; omega) _ _ _ rfl rfl (keyOf_int_mk Tryz.underlying3 hwf) _ [] unitElem_mk ?_; intro w4 hown4 hg4) | go_in)
        have HM4 : Hid (w4.ownsMap Tryz.prog 3 unitElem (w.heap.size + 1) (k + 1) (D.put (.int .i64 yv) (.agg []))) := hown4
        have HX4 : Hid (Blk w4 w.heap.size [.int .i64 h, .int .i64 r, .string i, .slice (some ⟨b, o, none⟩) l.length cap] 33) := HX3.out.grown hg4 (by simp)
        have HB4 : Hid (Below w.heap.size w w4) := HB3.out.grown hg4 HB3.out.size (fun j hj => by injection hj; omega)
        clear hown4 hg4 HM3 HX3 HB3 HY3 q0
        go_wp2
        go_roundw
        case rel => exact ⟨k + 1, _, by omega, by go_num, HM4, HN, HX4, HB4⟩
        case measure => simp [intOf]; omega
    · have hltz : ¬ (k : Int) < (l.length : Int) := by omega
      have HN : Hid (∀ z, has D (.int .i64 z) = F z) := fun z => by rw [HD.out, HSn.out k z (by omega)]
      go_wp2
      go_ret
      exact ⟨rfl, D, HM1.out.mono (by omega), HN, HB1.out⟩
end Go.Proofs.YtajfmjgaaapjeaaGreatDoor
