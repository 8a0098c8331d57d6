/- Plain facts on validators as texts: shown and read; of no Go text. No conditions. What the two ShowVals answer; old memory stays. Conditions: rows that a machine can hold. What the laws' helpers szValS, toVal, toValS, eqVal and eqValS answer; old memory stays. Conditions: rows that a machine can hold. What the two ValsHash answer, and the walk of the exact law of ValsHash: it answers true; old memory stays. Conditions: rows that a machine can hold; the table. A commit that is being drawn: its block, its row; what keeps both. Conditions: none of ours. -/
import Derived.Test.YtbpmjejmeaifbaaGreatDoorMH
import Derived.Test.YtbpmjejmeaifbaaGreatDoorMB
import Derived.Test.YtbpmjejmeaifbaaGreatDoorOk
import Derived.Test.YtbpmjejmeaifbaaGreatDoorVar
import Derived.Test.YtbpmjejmeaifbaaGreatDoorMC
import Derived.Test.YtbpmjejmeaifbaaGreatDoorGr
import Derived.Test.YtbpmjejmeaifbaaGreatDoorME
import Derived.Test.YtbpmjejmeaifbaaGreatDoorD9
import Derived.Test.YtbpmjejmeaifbaaGreatDoorDw
import Derived.Test.YtbpmjejmeaifbaaGreatDoorDh
import Derived.Deep.AppendLies
namespace Go.Proofs.YtbpmjejmeaifbaaGreatDoor.Num
set_option linter.unusedVariables false
/-- How many, and of each who and how much. -/
def shB (n : Int) (l : List V) : ByteArray := l.foldl (fun s v => s ++ (var v.i ++ var v.p)) (var n)
theorem shB_snoc (n : Int) (l : List V) (k : Nat) (h : k < l.length) : shB n (l.take (k + 1)) = shB n (l.take k) ++ (var l[k].i ++ var l[k].p) := by
  unfold shB
  rw [List.take_succ_eq_append_getElem h, List.foldl_append]; rfl
theorem shB_size (n : Int) (l : List V) : ∀ k, k ≤ l.length → (shB n (l.take k)).size ≤ 7 + 14 * k
  | 0, _ => by have := var_size n; simpa [shB] using this
  | k + 1, h => by
    have ih := shB_size n l k (by omega)
    have h1 := var_size l[k].i
    have h2 := var_size l[k].p
    rw [shB_snoc n l k h, ByteArray.size_append, ByteArray.size_append]; omega
theorem shB_ge (n : Int) (l : List V) : ∀ k, k ≤ l.length → (var n).size ≤ (shB n (l.take k)).size
  | 0, _ => by simp [shB]
  | k + 1, h => by
    have ih := shB_ge n l k (by omega)
    rw [shB_snoc n l k h, ByteArray.size_append]; omega
def showV (l : List V) : ByteArray := bif vOk l then shB l.length l else ⟨#[]⟩
theorem showV_no {l : List V} (h : vOk l = false) : showV l = ⟨#[]⟩ := by unfold showV; rw [h]; rfl
theorem showV_yes {l : List V} (h : vOk l = true) : showV l = shB l.length l := by unfold showV; rw [h]; rfl
theorem showV_size (l : List V) : (showV l).size ≤ 105 := by
  cases h : vOk l with
  | false => rw [showV_no h]; show 0 ≤ 105; omega
  | true =>
    have := shB_size l.length l l.length (Nat.le_refl _)
    have := (len_ok h).2
    rw [showV_yes h]
    rw [List.take_length] at *
    omega
/-- The validator that is read from a place on, and where the next one begins. -/
def pairAt (s : ByteArray) (a : Nat) : V := ⟨(rvAt s a).1, (rvAt s (a + (rvAt s a).2)).1⟩
def nxt (s : ByteArray) (a : Nat) : Nat := a + (rvAt s a).2 + (rvAt s (a + (rvAt s a).2)).2
def atJ (s : ByteArray) (a : Nat) : Nat → Nat
  | 0 => a
  | j + 1 => nxt s (atJ s a j)
def rdl (s : ByteArray) (a : Nat) : Nat → List V
  | 0 => []
  | j + 1 => rdl s a j ++ [pairAt s (atJ s a j)]
theorem rdl_length (s : ByteArray) (a : Nat) : ∀ j, (rdl s a j).length = j
  | 0 => rfl
  | j + 1 => by rw [rdl, List.length_append, rdl_length s a j]; rfl
theorem rdl_at (s : ByteArray) (a : Nat) : ∀ c j (hj : j < c) (h : j < (rdl s a c).length), (rdl s a c)[j] = pairAt s (atJ s a j)
  | c + 1, j, hj, h => by
    have hl := rdl_length s a c
    by_cases e : j = c
    · subst e
      have : (rdl s a (j + 1))[j]? = some (pairAt s (atJ s a j)) := by
        rw [rdl, List.getElem?_append_right (by omega), hl]; simp
      rw [List.getElem?_eq_getElem h] at this
      exact Option.some.inj this
    · have ih := rdl_at s a c j (by omega) (by omega)
      have : (rdl s a (c + 1))[j]? = some (pairAt s (atJ s a j)) := by
        rw [rdl, List.getElem?_append_left (by omega), List.getElem?_eq_getElem (by omega), ih]
      rw [List.getElem?_eq_getElem h] at this
      exact Option.some.inj this
theorem nxt_le (s : ByteArray) (a : Nat) (h : a ≤ s.size) : nxt s a ≤ s.size := by
  have h1 := (rvAt_bound s a).1
  have h2 := (rvAt_bound s (a + (rvAt s a).2)).1
  unfold nxt; omega
theorem atJ_le (s : ByteArray) (a : Nat) (h : a ≤ s.size) : ∀ j, atJ s a j ≤ s.size
  | 0 => h
  | j + 1 => nxt_le s _ (atJ_le s a h j)
/-- Where a number is missing nobody is right. -/
theorem rdl_bad (s : ByteArray) (a c j : Nat) (hj : j < c) (h : (pairAt s (atJ s a j)).i < 1 ∨ (pairAt s (atJ s a j)).p < 1) : vOk (rdl s a c) = false := by
  have hl := rdl_length s a c
  have hj' : j < (rdl s a c).length := by omega
  cases ho : vOk (rdl s a c) with
  | false => rfl
  | true =>
    have := good_of_ok ho hj'
    rw [rdl_at s a c j hj hj'] at this
    omega
/-- The validators of which s is made. -/
def readV (s : ByteArray) : List V × Bool :=
  bif decide ((rvAt s 0).2 = 0) || decide (7 < (rvAt s 0).1) then ([], false) else
  bif decide (showV (rdl s (rvAt s 0).2 (rvAt s 0).1.toNat) = s) then (rdl s (rvAt s 0).2 (rvAt s 0).1.toNat, true) else ([], false)
theorem readV_no0 {s : ByteArray} (h : (rvAt s 0).2 = 0 ∨ 7 < (rvAt s 0).1) : readV s = ([], false) := by
  unfold readV
  rw [show (decide ((rvAt s 0).2 = 0) || decide (7 < (rvAt s 0).1)) = true from by simpa using h]; rfl
theorem readV_eq {s : ByteArray} (h0 : 0 < (rvAt s 0).2) (h7 : (rvAt s 0).1 ≤ 7) : readV s = bif decide (showV (rdl s (rvAt s 0).2 (rvAt s 0).1.toNat) = s) then (rdl s (rvAt s 0).2 (rvAt s 0).1.toNat, true) else ([], false) := by
  unfold readV
  rw [show (decide ((rvAt s 0).2 = 0) || decide (7 < (rvAt s 0).1)) = false from by simp; omega]; rfl
theorem read_ne {s : ByteArray} {l : List V} (h0 : 0 < s.size) (h : vOk l = false) : showV l ≠ s := by
  intro e
  rw [showV_no h] at e
  rw [← e] at h0
  exact absurd h0 (Nat.lt_irrefl 0)
theorem readV_bad {s : ByteArray} (h0 : 0 < (rvAt s 0).2) (h7 : (rvAt s 0).1 ≤ 7) (h : vOk (rdl s (rvAt s 0).2 (rvAt s 0).1.toNat) = false) : readV s = ([], false) := by
  have hs := (rvAt_bound s 0).1
  rw [readV_eq h0 h7, decide_eq_false (read_ne (by omega) h)]; rfl
theorem readV_len (s : ByteArray) : (readV s).1.length ≤ 7 := by
  by_cases h : (rvAt s 0).2 = 0 ∨ 7 < (rvAt s 0).1
  · rw [readV_no0 h]; simp
  · rw [readV_eq (by omega) (by omega)]
    cases decide (showV (rdl s (rvAt s 0).2 (rvAt s 0).1.toNat) = s) with
    | false => simp
    | true => rw [cond_true, rdl_length]; omega
end Go.Proofs.YtbpmjejmeaifbaaGreatDoor.Num
namespace Go.Proofs.YtbpmjejmeaifbaaGreatDoor
open Go.RowKit
open Num
set_option linter.unusedVariables false
set_option maxHeartbeats 800000 in
set_option maxRecDepth 100000 in
theorem spec_showV (a : Option Addr) (l : List V) (cap : Nat) (w : World) (hl : VO w a l) (hlen : l.length ≤ 9223372036854775807) :
    Calls Tryz.prog 70 #[.slice a l.length cap] w fun e w' => e = .returned (.string (showV l)) ∧ Below w.heap.size w w' := by
  have kO := spec_okV a l cap w hl hlen
  have HL : Hid (VO w a l) := hl
  clear hl
  rcases hO : vOk l with _ | _
  · have HE : Hid (showV l = ⟨#[]⟩) := showV_no hO
    rw [hO] at kO
    clear hO
    go_enter Tryz.func70, Tryz.ntmps70
    go_wp2_with fail
    refine kO.mono ?_
    rintro e w1 ⟨rfl, hb1⟩
    go_wp2
    go_ret
    exact ⟨by rw [HE.out]; rfl, hb1⟩
  · have HE : Hid (showV l = shB l.length l) := showV_yes hO
    have h7 := len_ok hO
    rw [hO] at kO
    clear hO
    rcases HL.out with h0 | ⟨b, o, rfl, hv0⟩
    · omega
    have HV : Hid (VAt w b o l) := hv0
    clear hv0
    go_enter Tryz.func70, Tryz.ntmps70
    go_wp2_with fail
    refine kO.mono ?_
    rintro e w1 ⟨rfl, hb1⟩
    go_wp2_with fail
    refine (spec_var _ _).mono ?_
    rintro e w2 ⟨rfl, hb2⟩
    have hb3 := hb1.trans (hb2.mono hb1.size)
    have HB3 : Hid (Below w.heap.size w w2) := hb3
    clear hb1 hb2 hb3
    go_wp2
    go_loopw [4, 3] (fun iv sv wr => ∃ (k : Nat) (s : ByteArray), k ≤ l.length ∧ iv = .int .i64 k ∧ sv = .string s ∧ Hid (s = shB l.length (l.take k)) ∧ s.size ≤ 105 ∧ Below w.heap.size w wr) (fun iv _ _ => l.length - (intOf iv).toNat)
    case atStart => exact ⟨0, _, Nat.zero_le _, rfl, rfl, rfl, by have := var_size (l.length : Int); omega, HB3.out⟩
    case round =>
      obtain ⟨k, s, hk, rfl, rfl, HS, hs, hb⟩ := hrel
      by_cases hlt : k < l.length
      · have hltz : (k : Int) < (l.length : Int) := by omega
        have hne := bel_some wr
        obtain ⟨v, hvE⟩ : ∃ v, l[k] = v := ⟨_, rfl⟩
        have c1 := fun p : Bel wr => p.cell ((HV.out.below hb) k hlt).1
        have c2 := fun p : Bel wr => p.cell ((HV.out.below hb) k hlt).2
        rw [hvE] at c1 c2
        have hsz := shB_size l.length l (k + 1) (by omega)
        have HN := shB_snoc l.length l k hlt
        rw [hvE, ← HS.out, ← ByteArray.append_assoc] at HN
        rw [HN] at hsz
        have HN' : Hid (s ++ var v.i ++ var v.p = shB l.length (l.take (k + 1))) := HN.symm
        have hv1 := var_size v.i
        have hv2 := var_size v.p
        have e1 := ByteArray.size_append (a := s) (b := var v.i)
        have g1 : ¬ 9223372036854775807 < s.size + (var v.i).size := by omega
        have g2 : ¬ 9223372036854775807 < (s ++ var v.i).size + (var v.p).size := by omega
        have hsz' : (s ++ var v.i ++ var v.p).size ≤ 105 := by omega
        clear HN hsz hvE e1 hv1 hv2
        go_wp2_with fail
        refine wp_region_below (by kernel_rfl) (by kernel_rfl) ?_
        repeat (go_big_quiet_step ((go_at_call 72; exact bel_of (spec_var _ _))))
        refine wpQuiet_nil ?_
        intro _ hw'
        obtain ⟨pq, hw''⟩ := hw'
        subst hw''
        have hb3 := hb.trans (pq.h.mono hb.size)
        go_wp2
        go_roundw
        case rel => exact ⟨k + 1, _, by omega, by go_num, rfl, HN', hsz', hb3⟩
        case measure => simp [intOf]; omega
      · have hltz : ¬ (k : Int) < (l.length : Int) := by omega
        have HF : Hid (showV l = s) := by show _ = _; rw [HE.out, HS.out, List.take_of_length_le (by omega)]
        go_wp2
        go_ret
        exact ⟨by rw [HF.out]; rfl, hb⟩
set_option maxHeartbeats 800000 in
set_option maxRecDepth 100000 in
theorem impl_showV (a : Option Addr) (l : List V) (cap : Nat) (w : World) (hl : VO w a l) (hlen : l.length ≤ 9223372036854775807) :
    Calls Tryz.prog 61 #[.slice a l.length cap] w fun e w' => e = .returned (.string (showV l)) ∧ Below w.heap.size w w' := by
  have kO := impl_okV a l cap w hl hlen
  have HL : Hid (VO w a l) := hl
  clear hl
  rcases hO : vOk l with _ | _
  · have HE : Hid (showV l = ⟨#[]⟩) := showV_no hO
    rw [hO] at kO
    clear hO
    go_enter Tryz.func61, Tryz.ntmps61
    go_wp2_with fail
    refine kO.mono ?_
    rintro e w1 ⟨rfl, hb1⟩
    go_wp2
    go_ret
    exact ⟨by rw [HE.out]; rfl, hb1⟩
  · have HE : Hid (showV l = shB l.length l) := showV_yes hO
    have h7 := len_ok hO
    rw [hO] at kO
    clear hO
    rcases HL.out with h0 | ⟨b, o, rfl, hv0⟩
    · omega
    have HV : Hid (VAt w b o l) := hv0
    clear hv0
    go_enter Tryz.func61, Tryz.ntmps61
    go_wp2_with fail
    refine kO.mono ?_
    rintro e w1 ⟨rfl, hb1⟩
    go_wp2_with fail
    refine (impl_var _ _).mono ?_
    rintro e w2 ⟨rfl, hb2⟩
    have hb3 := hb1.trans (hb2.mono hb1.size)
    have HB3 : Hid (Below w.heap.size w w2) := hb3
    clear hb1 hb2 hb3
    go_wp2
    go_loopw [14, 3] (fun iv sv wr => ∃ (k : Nat) (s : ByteArray), k ≤ l.length ∧ iv = .int .i64 k ∧ sv = .string s ∧ Hid (s = shB l.length (l.take k)) ∧ s.size ≤ 105 ∧ Below w.heap.size w wr) (fun iv _ _ => l.length - (intOf iv).toNat)
    case atStart => exact ⟨0, _, Nat.zero_le _, rfl, rfl, rfl, by have := var_size (l.length : Int); omega, HB3.out⟩
    case round =>
      obtain ⟨k, s, hk, rfl, rfl, HS, hs, hb⟩ := hrel
      by_cases hlt : k < l.length
      · have hltz : (k : Int) < (l.length : Int) := by omega
        obtain ⟨v, hvE⟩ : ∃ v, l[k] = v := ⟨_, rfl⟩
        have c1 := ((HV.out.below hb) k hlt).1
        have c2 := ((HV.out.below hb) k hlt).2
        rw [hvE] at c1 c2
        have hsz := shB_size l.length l (k + 1) (by omega)
        have HN := shB_snoc l.length l k hlt
        rw [hvE, ← HS.out] at HN
        rw [HN] at hsz
        have HN' : Hid (s ++ (var v.i ++ var v.p) = shB l.length (l.take (k + 1))) := HN.symm
        have hv1 := var_size v.i
        have hv2 := var_size v.p
        have e1 := ByteArray.size_append (a := var v.i) (b := var v.p)
        have g1 : ¬ 9223372036854775807 < (var v.i).size + (var v.p).size := by omega
        have g2 : ¬ 9223372036854775807 < s.size + (var v.i ++ var v.p).size := by omega
        have hsz' : (s ++ (var v.i ++ var v.p)).size ≤ 105 := by omega
        clear HN hsz hvE e1 hv1 hv2
        go_wp2_with fail
        have d1 : (wr.alloc (Obj.cells #[Value.int IntKind.i64 v.i, Value.int IntKind.i64 v.p] 69)).cell? ⟨wr.heap.size, 0, none⟩ = some (.int .i64 v.i) := by simp
        have d2 : (wr.alloc (Obj.cells #[Value.int IntKind.i64 v.i, Value.int IntKind.i64 v.p] 69)).cell? ⟨wr.heap.size, 1, none⟩ = some (.int .i64 v.p) := by simp
        replace hb : Below w.heap.size w (wr.alloc (Obj.cells #[Value.int IntKind.i64 v.i, Value.int IntKind.i64 v.p] 69)) := hb.alloc hb.size _
        clear c1 c2
        generalize wr.alloc (Obj.cells #[Value.int IntKind.i64 v.i, Value.int IntKind.i64 v.p] 69) = wn at *
        have hne := bel_some wn
        have c1 := fun p : Bel wn => p.cell d1
        have c2 := fun p : Bel wn => p.cell d2
        clear d1 d2
        refine wp_region_below (by kernel_rfl) (by kernel_rfl) ?_
        repeat (go_big_quiet_step ((go_at_call 96; exact bel_of (impl_var _ _))))
        refine wpQuiet_nil ?_
        intro _ hw'
        obtain ⟨pq, hw''⟩ := hw'
        subst hw''
        have hb3 := hb.trans (pq.h.mono hb.size)
        go_wp2
        go_roundw
        case rel => exact ⟨k + 1, _, by omega, by go_num, rfl, HN', hsz', hb3⟩
        case measure => simp [intOf]; omega
      · have hltz : ¬ (k : Int) < (l.length : Int) := by omega
        have HF : Hid (showV l = s) := by show _ = _; rw [HE.out, HS.out, List.take_of_length_le (by omega)]
        go_wp2
        go_ret
        exact ⟨by rw [HF.out]; rfl, hb⟩
end Go.Proofs.YtbpmjejmeaifbaaGreatDoor
namespace Go.Proofs.YtbpmjejmeaifbaaGreatDoor
open Go.RowKit
open Num
set_option linter.unusedVariables false
set_option maxHeartbeats 400000 in
set_option maxRecDepth 100000 in
theorem sz_any (a : Option Addr) (n cap : Nat) (left : Int) (w : World) (hn : n ≤ 9223372036854775807) (h0 : 0 ≤ left) (h1 : left ≤ 1048576) :
    Calls Tryz.prog 14 #[.slice a n cap, .int .i64 left] w fun e w' => e = .returned (.int .i64 (if left < (n : Int) then -1 else left - (n : Int))) ∧ w' = w := by
  by_cases h : left < (n : Int)
  · rw [if_pos h]
    have h' : left - (n : Int) < 0 := by omega
    go_enter Tryz.func14, Tryz.ntmps14
    go_wp2
    go_ret
    exact ⟨rfl, rfl⟩
  · rw [if_neg h]
    have h' : ¬ left - (n : Int) < 0 := by omega
    go_enter Tryz.func14, Tryz.ntmps14
    go_wp2
    go_ret
    exact ⟨rfl, rfl⟩
set_option maxHeartbeats 400000 in
set_option maxRecDepth 100000 in
theorem toVal_any (x y : Int) (w : World) :
    Calls Tryz.prog 41 #[.agg #[.int .i64 x, .int .i64 y]] w fun e w' => e = .returned (.agg #[.int .i64 x, .int .i64 y]) ∧ Below w.heap.size w w' := by
  go_enter Tryz.func41, Tryz.ntmps41
  go_wp2
  refine bodyPost_ret (v := .agg #[.int .i64 x, .int .i64 y]) (by simp [results, Tryz.results41, go_sem]) rfl ⟨rfl, ?_⟩
  exact (((Below.refl _ _).alloc (Nat.le_refl _) _).alloc (by simp) _).alloc (by simp; omega) _
set_option maxHeartbeats 400000 in
set_option maxRecDepth 100000 in
theorem eqVal_any (x y x' y' : Int) (w : World) :
    Calls Tryz.prog 43 #[.agg #[.int .i64 x, .int .i64 y], .agg #[.int .i64 x', .int .i64 y']] w fun e w' => e = .returned (.bool (decide (x = x') && decide (y = y'))) ∧ Below w.heap.size w w' := by
  by_cases hx : x = x'
  · by_cases hy : y = y'
    · subst hx hy
      go_enter Tryz.func43, Tryz.ntmps43
      go_wp2
      go_ret
      exact ⟨by simp, below_two _ _ _⟩
    · subst hx
      go_enter Tryz.func43, Tryz.ntmps43
      go_wp2
      go_ret
      exact ⟨by simp [hy], below_two _ _ _⟩
  · go_enter Tryz.func43, Tryz.ntmps43
    go_wp2
    go_ret
    exact ⟨by simp [hx], below_two _ _ _⟩
set_option maxHeartbeats 400000 in
set_option maxRecDepth 100000 in
theorem toValS_any (a : Option Addr) (l : List V) (cap : Nat) (w : World) (hl : VO w a l) (hlen : l.length ≤ 1048576) :
    Calls Tryz.prog 17 #[.slice a l.length cap] w fun e w' => e = .returned (.slice (some ⟨w.heap.size, 0, none⟩) l.length l.length) ∧ VAt w' w.heap.size 0 l ∧ Room w' w.heap.size 0 (l.length * 2) ∧ Below w.heap.size w w' := by
  obtain ⟨i0, hi, hz0, hz1, hz2⟩ := info33f
  have HL : Hid (VO w a l) := hl
  clear hl
  go_enter Tryz.func17, Tryz.ntmps17
  go_wp2_with (at_make; refine wpList_make_full _ rfl _ _ 24 rfl w.heap.size 69 i0 (.agg #[.int .i64 0, .int .i64 0]) 2 Tryz.underlying24 hi hz0 hz1 _ _ _ _ l.length rfl rfl rfl rfl (by rw [hz2]; omega) (by unfold maxLen; omega) (Nat.le_refl _) ?_; intro w1 hown hgr)
  have hroom : Room w1 w.heap.size 0 (l.length * 2) := fun j hj => by
    rw [Nat.zero_add]
    refine ⟨?_, hown.frozenAt j⟩
    rw [hown.cellAt j (by omega)]
    simp [madeCells]
    exact hj
  have hb1 := below_of_grown hgr
  have hs1 : w.heap.size < w1.heap.size := by
    rcases hown.2 with ⟨h', _⟩ | ⟨g', cap', cur, h', hb, hg, _⟩
    · simp at h'
    · simp only [Value.slice.injEq, Option.some.injEq, Addr.mk.injEq, and_true, true_and] at h'
      rw [← h'.1] at hg
      exact (Array.getElem?_eq_some_iff.1 hg).1
  clear hown hgr
  go_loopw [4] (fun iv wr => ∃ k : Nat, k ≤ l.length ∧ iv = .int .i64 k ∧ Hid (VAt wr w.heap.size 0 (l.take k)) ∧ Hid (Room wr w.heap.size 0 (l.length * 2)) ∧ Below w.heap.size w wr ∧ w.heap.size < wr.heap.size) (fun iv _ => l.length - (intOf iv).toNat)
  case atStart => exact ⟨0, Nat.zero_le _, rfl, fun j hj => by simp at hj, hroom, hb1, hs1⟩
  case round =>
    clear hroom hb1 hs1 w1
    obtain ⟨k, hk, rfl, HA, HR, hb, hsz⟩ := hrel
    by_cases hlt : k < l.length
    · have hltz : (k : Int) < (l.length : Int) := by omega
      rcases HL.out with h0 | ⟨b, o, rfl, hv0⟩
      · omega
      have hv := hv0.below hb
      obtain ⟨v, hvE⟩ : ∃ v, l[k] = v := ⟨_, rfl⟩
      have c1 := (hv k hlt).1
      have c2 := (hv k hlt).2
      rw [hvE] at c1 c2
      clear hv hv0
      go_wp2_with fail
      refine (toVal_any _ _ _).mono ?_
      rintro e w2 ⟨rfl, hb2⟩
      have hr2 := HR.out.below hb2
      have ha2 := HA.out.below hb2
      have hsz2 : w.heap.size < w2.heap.size := by have := hb2.size; omega
      have hb3 := hb.trans (hb2.mono hb.size)
      obtain ⟨s1, f1⟩ := hr2 (k * 2) (by omega)
      obtain ⟨s2, f2⟩ := hr2 (k * 2 + 1) (by omega)
      obtain ⟨u1, e1⟩ := Option.isSome_iff_exists.1 s1
      obtain ⟨u2, e2⟩ := Option.isSome_iff_exists.1 s2
      rw [Nat.zero_add] at e1 e2 f1 f2
      clear s1 s2 c1 c2
      go_wp2
      go_roundw
      case rel =>
        refine ⟨k + 1, by omega, by go_num, ?_, (hr2.set _ _ _).set _ _ _, (hb3.setCell (p := ⟨w.heap.size, k * 2, none⟩) (Nat.le_refl _) _).setCell (p := ⟨w.heap.size, k * 2 + 1, none⟩) (Nat.le_refl _) _, by simpa [World.setCell] using hsz2⟩
        show VAt _ _ _ _
        have hn := ha2.snoc (v := v) (by rw [List.length_take, Nat.min_eq_left (by omega), Nat.zero_add, e1]; rfl) (by rw [List.length_take, Nat.min_eq_left (by omega), Nat.zero_add, e2]; rfl)
        rw [List.length_take, Nat.min_eq_left (by omega), Nat.zero_add, ← hvE, ← List.take_succ_eq_append_getElem hlt, hvE] at hn
        exact hn
      case measure => simp [intOf]; omega
    · have hltz : ¬ (k : Int) < (l.length : Int) := by omega
      have hkl : k = l.length := by omega
      have HA' : Hid (VAt wr w.heap.size 0 l) := by have := HA.out; rw [hkl, List.take_length] at this; exact this
      clear hkl
      go_wp2
      go_ret
      exact ⟨rfl, HA'.out, HR.out, hb⟩
set_option maxHeartbeats 400000 in
set_option maxRecDepth 100000 in
theorem eqValS_any (a a' : Option Addr) (l l' : List V) (cap cap' : Nat) (w : World) (hl : VO w a l) (hl' : VO w a' l') (h1 : l.length ≤ 1099511627776) (h2 : l'.length ≤ 1099511627776) :
    Calls Tryz.prog 20 #[.slice a l.length cap, .slice a' l'.length cap'] w fun e w' => e = .returned (.bool (decide (l = l'))) ∧ Below w.heap.size w w' := by
  by_cases hne : l.length = l'.length
  · have HL : Hid (VO w a l) := hl
    have HL' : Hid (VO w a' l') := hl'
    have HN : Hid (l.length = l'.length) := hne
    have hnz : (l.length : Int) = (l'.length : Int) := by omega
    clear hl hl' hne
    go_enter Tryz.func20, Tryz.ntmps20
    go_wp2
    go_loopw [5] (fun iv wr => ∃ k : Nat, k ≤ l.length ∧ iv = .int .i64 k ∧ Hid (l.take k = l'.take k) ∧ Below w.heap.size w wr) (fun iv _ => l.length - (intOf iv).toNat)
    case atStart => exact ⟨0, Nat.zero_le _, rfl, rfl, Below.refl _ _⟩
    case round =>
      obtain ⟨k, hk, rfl, HA, hb⟩ := hrel
      by_cases hlt : k < l.length
      · have hltz : (k : Int) < (l.length : Int) := by omega
        have hlt' : k < l'.length := by have := HN.out; omega
        have hltz' : (k : Int) < (l'.length : Int) := by omega
        rcases HL.out with h0 | ⟨b, o, rfl, hv0⟩
        · omega
        rcases HL'.out with h0 | ⟨b', o', rfl, hv0'⟩
        · omega
        have hn := bel_some wr
        obtain ⟨v, hvE⟩ : ∃ v, l[k] = v := ⟨_, rfl⟩
        obtain ⟨v', hvE'⟩ : ∃ v, l'[k] = v := ⟨_, rfl⟩
        have c1 := fun p : Bel wr => p.cell ((hv0.below hb) k hlt).1
        have c2 := fun p : Bel wr => p.cell ((hv0.below hb) k hlt).2
        have c3 := fun p : Bel wr => p.cell ((hv0'.below hb) k hlt').1
        have c4 := fun p : Bel wr => p.cell ((hv0'.below hb) k hlt').2
        rw [hvE] at c1 c2
        rw [hvE'] at c3 c4
        clear hv0 hv0'
        go_wp2_with fail
        refine wp_region_below (by kernel_rfl) (by kernel_rfl) ?_
        repeat (go_big_quiet_step ((go_at_call 43; exact bel_of (eqVal_any _ _ _ _ _))))
        refine wpQuiet_nil ?_
        intro _ hw'
        obtain ⟨pq, hw''⟩ := hw'
        subst hw''
        have hb3 := hb.trans (pq.h.mono hb.size)
        by_cases hv : v = v'
        · have HN' : Hid (l.take (k + 1) = l'.take (k + 1)) := by
            show _ = _
            rw [List.take_succ_eq_append_getElem hlt, List.take_succ_eq_append_getElem hlt', HA.out, hvE, hvE', hv]
          have hd : (decide (v.i = v'.i) && decide (v.p = v'.p)) = true := by rw [hv]; simp
          have hd' : (!decide (v.i = v'.i) || !decide (v.p = v'.p)) = false := by rw [hv]; simp
          clear hv hvE hvE' c1 c2 c3 c4
          generalize (!decide (v.i = v'.i) || !decide (v.p = v'.p)) = bb at *
          generalize (decide (v.i = v'.i) && decide (v.p = v'.p)) = cc at *
          subst hd hd'
          go_wp2
          go_roundw
          case rel => exact ⟨k + 1, by omega, by go_num, HN', hb3⟩
          case measure => simp [intOf]; omega
        · have HF : Hid (decide (l = l') = false) := by
            show _ = _
            refine decide_eq_false fun e => hv ?_
            subst e
            rw [← hvE, ← hvE']
          have hd : (decide (v.i = v'.i) && decide (v.p = v'.p)) = false := by
            rw [← Bool.not_eq_true]
            intro h
            simp at h
            exact hv (by cases v; cases v'; simp_all)
          have hd' : (!decide (v.i = v'.i) || !decide (v.p = v'.p)) = true := by
            rw [← Bool.not_and, hd]; rfl
          clear hv hvE hvE' c1 c2 c3 c4
          generalize (!decide (v.i = v'.i) || !decide (v.p = v'.p)) = bb at *
          generalize (decide (v.i = v'.i) && decide (v.p = v'.p)) = cc at *
          subst hd hd'
          go_wp2
          go_ret
          exact ⟨by rw [HF.out]; rfl, hb3⟩
      · have hltz : ¬ (k : Int) < (l.length : Int) := by omega
        have HF : Hid (decide (l = l') = true) := by
          show _ = _
          refine decide_eq_true ?_
          have h := HA.out
          have hn := HN.out
          rwa [List.take_of_length_le (by omega), List.take_of_length_le (by omega)] at h
        go_wp2
        go_ret
        exact ⟨by rw [HF.out]; rfl, hb⟩
  · have hnz : ¬ (l.length : Int) = (l'.length : Int) := by omega
    have HF : Hid (decide (l = l') = false) := decide_eq_false fun e => hne (by rw [e])
    go_enter Tryz.func20, Tryz.ntmps20
    go_wp2
    go_ret
    exact ⟨by rw [HF.out]; rfl, Below.refl _ _⟩
end Go.Proofs.YtbpmjejmeaifbaaGreatDoor
namespace Go.Proofs.YtbpmjejmeaifbaaGreatDoor
open Go.RowKit
open Num
set_option linter.unusedVariables false
/-- The hash of validators; nothing where they are not right. -/
def hashV (l : List V) : ByteArray := bif vOk l then shortB (showV l) else ⟨#[]⟩
set_option maxHeartbeats 400000 in
set_option maxRecDepth 100000 in
theorem impl_vhash (a : Option Addr) (l : List V) (cap : Nat) (w : World) (hl : VO w a l) (hlen : l.length ≤ 9223372036854775807) (hT : Tab w) :
    Calls Tryz.prog 29 #[.slice a l.length cap] w fun e w' => e = .returned (.string (hashV l)) ∧ Below w.heap.size w w' := by
  have kO := impl_okV a l cap w hl hlen
  have HL : Hid (VO w a l) := hl
  have HT : Hid (Tab w) := hT
  have hsz := showV_size l
  clear hl hT
  rcases hO : vOk l with _ | _
  · have HE : Hid (hashV l = ⟨#[]⟩) := by show _ = _; unfold hashV; rw [hO]; rfl
    rw [hO] at kO
    clear hO
    go_enter Tryz.func29, Tryz.ntmps29
    go_wp2_with fail
    refine kO.mono ?_
    rintro e w1 ⟨rfl, hb1⟩
    go_wp2
    go_ret
    exact ⟨by rw [HE.out]; rfl, hb1⟩
  · have HE : Hid (hashV l = shortB (showV l)) := by show _ = _; unfold hashV; rw [hO]; rfl
    rw [hO] at kO
    clear hO
    go_enter Tryz.func29, Tryz.ntmps29
    go_wp2_with fail
    refine kO.mono ?_
    rintro e w1 ⟨rfl, hb1⟩
    go_wp2_with fail
    refine (impl_showV a l cap w1 (HL.out.below hb1) hlen).mono ?_
    rintro e w2 ⟨rfl, hb2⟩
    have hb3 := hb1.trans (hb2.mono hb1.size)
    clear hb1 hb2
    go_wp2_with fail
    refine (impl_short _ w2 (by omega) (HT.out.below hb3 HT.out.pos)).mono ?_
    rintro e w3 ⟨rfl, hb4⟩
    have hb5 := hb3.trans (hb4.mono hb3.size)
    go_wp2
    go_ret
    exact ⟨by rw [HE.out]; rfl, hb5⟩
set_option maxHeartbeats 400000 in
set_option maxRecDepth 100000 in
theorem spec_vhash (a : Option Addr) (l : List V) (cap : Nat) (w : World) (hl : VO w a l) (hlen : l.length ≤ 9223372036854775807) :
    Calls Tryz.prog 35 #[.slice a l.length cap] w fun e w' => e = .returned (.string (hashV l)) ∧ Below w.heap.size w w' := by
  have kO := spec_okV a l cap w hl hlen
  have HL : Hid (VO w a l) := hl
  have hsz := showV_size l
  clear hl
  rcases hO : vOk l with _ | _
  · have HE : Hid (hashV l = ⟨#[]⟩) := by show _ = _; unfold hashV; rw [hO]; rfl
    rw [hO] at kO
    clear hO
    go_enter Tryz.func35, Tryz.ntmps35
    go_wp2_with fail
    refine kO.mono ?_
    rintro e w1 ⟨rfl, hb1⟩
    go_wp2
    go_ret
    exact ⟨by rw [HE.out]; rfl, hb1⟩
  · have HE : Hid (hashV l = shortB (showV l)) := by show _ = _; unfold hashV; rw [hO]; rfl
    rw [hO] at kO
    clear hO
    go_enter Tryz.func35, Tryz.ntmps35
    go_wp2_with fail
    refine kO.mono ?_
    rintro e w1 ⟨rfl, hb1⟩
    go_wp2_with fail
    refine (spec_showV a l cap w1 (HL.out.below hb1) hlen).mono ?_
    rintro e w2 ⟨rfl, hb2⟩
    have hb3 := hb1.trans (hb2.mono hb1.size)
    clear hb1 hb2
    go_wp2_with fail
    refine (spec_short _ w2 (by omega)).mono ?_
    rintro e w3 ⟨rfl, hb4⟩
    have hb5 := hb3.trans (hb4.mono hb3.size)
    go_wp2
    go_ret
    exact ⟨by rw [HE.out]; rfl, hb5⟩
end Go.Proofs.YtbpmjejmeaifbaaGreatDoor
namespace Go.Proofs.YtbpmjejmeaifbaaGreatDoor
open Go.RowKit
open Num
set_option linter.unusedVariables false
theorem own_else {w w' : World} {B g : Nat} {e : TypeId} {size : Nat} {v : Value} {n : Nat} {xs : List Value} (h : w.ownsRow B e size v n xs) (hg : w.grownBy w' (some g)) (hne : ∀ j, v.ownBlock = some j → j ≠ g) : w'.ownsRow B e size v n xs := by
  obtain ⟨h1, h2⟩ := h
  refine ⟨h1, ?_⟩
  rcases h2 with h2 | ⟨g', cap, cur, hv, hgB, hh, r⟩
  · exact Or.inl h2
  · have hn : g' ≠ g := hne g' (by rw [hv]; rfl)
    exact Or.inr ⟨g', cap, cur, hv, hgB, by rw [hg.block g' ((Array.getElem?_eq_some_iff.1 hh).1) (fun e => by injection e with e; exact hn e)]; exact hh, r⟩
theorem own_ne {w : World} {B n b : Nat} {q : Value} {xs cs : List Value} (h : w.ownsRow B 62 2 q n xs) (hb : Blk w b cs 29) : ∀ j, q.ownBlock = some j → j ≠ b := by
  intro j hj e
  subst e
  rcases h.2 with ⟨rfl, _⟩ | ⟨g', cap, cur, rfl, _, hh, _⟩
  · cases hj
  · have e : g' = j := by simpa [Value.ownBlock] using hj
    subst e
    unfold Blk at hb
    rw [hh] at hb
    simp at hb
/-- A commit that is being drawn: its block, its row behind what lay. -/
def XS (wT w : World) (g B b : Nat) (x : Ct) (q : Value) : Prop :=
  Blk w b [.int .i64 x.h, .int .i64 x.r, .string x.i, q] 29 ∧ OwnS w wT.heap.size q x.l ∧ DS w g B ∧ wT.grownBy w (some g) ∧ wT.heap.size ≤ b ∧ g < wT.heap.size ∧ B ≤ wT.heap.size
theorem XS.call {wT w w' : World} {g B b : Nat} {x : Ct} {q : Value} (h : XS wT w g B b x q) (hd : DS w' g B) (hg : w.grownBy w' (some g)) : XS wT w' g B b x q := by
  obtain ⟨h1, h2, h3, h4, h5, h6, h7⟩ := h
  exact ⟨h1.grown hg (by simp; omega), own_gr h2 hg (by omega), hd, grown_trans h4 hg, h5, h6, h7⟩
theorem XS.below {wT w w' : World} {g B b : Nat} {x : Ct} {q : Value} (h : XS wT w g B b x q) (hb : Below w.heap.size w w') : XS wT w' g B b x q := by
  obtain ⟨h1, h2, h3, h4, h5, h6, h7⟩ := h
  have hs := h4.size
  exact ⟨h1.below hb h1.lt, own_keep h2 hb, h3.below (hb.mono (by omega)), gr_below h4 (hb.mono hs), h5, h6, h7⟩
theorem XS.set {wT w : World} {g B b : Nat} {x : Ct} {q : Value} (h : XS wT w g B b x q) (k : Nat) (u : Value) (y : Ct) (hc : ([.int .i64 x.h, .int .i64 x.r, .string x.i, q] : List Value).set k u = [.int .i64 y.h, .int .i64 y.r, .string y.i, q]) (hl : y.l = x.l) : XS wT (w.setCell ⟨b, k, none⟩ u) g B b y q := by
  obtain ⟨h1, h2, h3, h4, h5, h6, h7⟩ := h
  have hb : Below wT.heap.size w (w.setCell ⟨b, k, none⟩ u) := (Below.refl _ _).setCell (show wT.heap.size ≤ b from h5) u
  exact ⟨hc ▸ h1.set k u, by rw [hl]; exact own_else h2 (gr_set w b k u) (own_ne h2 h1), h3.below (hb.mono h7), gr_below h4 hb, h5, h6, h7⟩
theorem XS.app {wT w w1 w4 : World} {g B b n : Nat} {x : Ct} {q v4 : Value} {m : List Sg} (h : XS wT w g B b x q) (hb : Below w.heap.size w w1) (hg : w1.grownBy w4 q.ownBlock) (hn : n = (x.l ++ m).length) (ho : w4.ownsRow wT.heap.size 62 2 v4 n (sgs x.l ++ sgs m)) :
    XS wT (w4.setCell ⟨b, 3, none⟩ v4) g B b ⟨x.h, x.r, x.i, x.l ++ m⟩ v4 := by
  obtain ⟨h1, h2, h3, h4, h5, h6, h7⟩ := h.below hb
  have hs := h4.size
  have hne := own_ne h2 h1
  have hB1 := h1.grown hg (fun e => hne b e rfl)
  have ho' : OwnS w4 wT.heap.size v4 (x.l ++ m) := by unfold OwnS; rw [sgs_append, ← hn]; exact ho
  have hk : Below wT.heap.size w1 (w4.setCell ⟨b, 3, none⟩ v4) := ((Below.refl _ _).grown hg hs (fun j hj => (h2.lt j hj).1)).setCell (show wT.heap.size ≤ b from h5) _
  exact ⟨hB1.set 3 v4, own_else ho' (gr_set w4 b 3 v4) (own_ne ho' hB1), h3.below (hk.mono h7), gr_below h4 hk, h5, h6, h7⟩
theorem sgs_set : ∀ (l : List Sg) (t : ByteArray) (z : Sg), (sgs (z :: l)).set 1 (.string t) = sgs (⟨z.v, t⟩ :: l) := fun l t z => by simp [sgs, sgc]
theorem XS.spoil {wT w : World} {g B b g' cap : Nat} {h r : Int} {i t : ByteArray} {z : Sg} {l : List Sg} (hx : XS wT w g B b ⟨h, r, i, z :: l⟩ (.slice (some ⟨g', 0, none⟩) (l.length + 1) cap)) : XS wT (w.setCell ⟨g', 1, none⟩ (.string t)) g B b ⟨h, r, i, ⟨z.v, t⟩ :: l⟩ (.slice (some ⟨g', 0, none⟩) (l.length + 1) cap) := by
  obtain ⟨h1, h2, h3, h4, h5, h6, h7⟩ := hx
  have hlt := h2.lt g' rfl
  have hne := own_ne h2 h1 g' rfl
  have hb : Below wT.heap.size w (w.setCell ⟨g', 1, none⟩ (.string t)) := (Below.refl _ _).setCell (show wT.heap.size ≤ g' from hlt.1) _
  refine ⟨h1.other 1 _ (fun e => hne e.symm), ?_, h3.below (hb.mono h7), gr_below h4 hb, h5, h6, h7⟩
  obtain ⟨k1, k2⟩ := h2
  refine ⟨by rw [← sgs_set]; rw [List.length_set]; exact k1, ?_⟩
  rcases k2 with ⟨k2, _⟩ | ⟨g2, cap', cur, hv, hgB, hh, r3, r4, r5, r6⟩
  · cases k2
  · simp only [Value.slice.injEq, Option.some.injEq, Addr.mk.injEq, and_true] at hv
    obtain ⟨rfl, _, rfl⟩ := hv
    refine Or.inr ⟨g', cap, cur.setIfInBounds 1 (.string t), rfl, hgB, ?_, r3, r4, by rw [Array.size_setIfInBounds]; exact r5, ?_⟩
    · rw [heap_setCell_same w g' 1 _ 62 _ hh]
    · show List.take ((l.length + 1) * 2) (cur.setIfInBounds 1 (.string t)).toList = sgs (⟨z.v, t⟩ :: l)
      rw [Array.toList_setIfInBounds, List.take_set, show List.take ((l.length + 1) * 2) cur.toList = sgs (z :: l) from r6]
      exact sgs_set _ _ _
/-- What is drawn of a commit. -/
def DrC (x : Ct) : Prop := x.i.size ≤ 1003 ∧ x.l.length ≤ 13 ∧ ∀ z ∈ x.l, z.s.size ≤ 1003
theorem size_headI (y : H) : (headI y).size ≤ 8 := by
  unfold headI
  cases hOk y
  · exact Nat.zero_le _
  · exact Nat.le_of_eq (size_shortB _)
theorem size_hashV (l : List V) : (hashV l).size ≤ 8 := by
  unfold hashV
  cases vOk l
  · exact Nat.zero_le _
  · exact Nat.le_of_eq (size_shortB _)
theorem VO.gr {w w' : World} {g : Nat} {B : Nat} {a : Option Addr} {l : List V} (h : VO w a l) (hg : w.grownBy w' (some g)) (ha : ∀ b o, a = some ⟨b, o, none⟩ → b ≠ g) : VO w' a l := by
  rcases h with h | ⟨b, o, rfl, h⟩
  · exact .inl h
  · refine .inr ⟨b, o, rfl, fun j hj => ?_⟩
    obtain ⟨k1, k2⟩ := h j hj
    have hlt := World.block_lt_of_cell? w _ k1
    have e := hg.block b hlt (fun e => by injection e with e; exact ha b o rfl e)
    rw [World.cell?_of_block (a := ⟨b, o + j * 2, none⟩) e, World.cell?_of_block (a := ⟨b, o + j * 2 + 1, none⟩) e]
    exact ⟨k1, k2⟩
theorem OwnV.sl {w : World} {B : Nat} {v : Value} {l : List V} (h : OwnV w B v l) : ∃ a cap, v = .slice a l.length cap ∧ VO w a l ∧ ∀ b o, a = some ⟨b, o, none⟩ → B ≤ b ∧ b < w.heap.size := by
  have h' := h
  rcases h.2 with ⟨rfl, hn⟩ | ⟨g, cap, cur, rfl, hB, hg, hnc, hcm, _⟩
  · exact ⟨none, 0, by rw [hn], .inl hn, fun b o e => by cases e⟩
  · refine ⟨some ⟨g, 0, none⟩, cap, rfl, .inr ⟨g, 0, rfl, fun j hj => ?_⟩, fun b o e => by have hl := h'.lt g rfl; simp at e; omega⟩
    obtain ⟨e1, e2⟩ := vals_at l j hj
    rw [Nat.zero_add, h'.cellAt (j * 2) (by omega), h'.cellAt (j * 2 + 1) (by omega), e1, e2]
    exact ⟨rfl, rfl⟩
/-- Numbers that are being drawn, a header ahead of them. -/
def AS (wT w : World) (g B b : Nat) (y : H) (q : Value) (zs : List Int) : Prop :=
  DS w g B ∧ wT.grownBy w (some g) ∧ OwnI w wT.heap.size q zs ∧ Blk w b (hcs y).toList 26 ∧ b < wT.heap.size ∧ b ≠ g ∧ g < wT.heap.size ∧ B ≤ wT.heap.size
theorem AS.call {wT w w' : World} {g B b : Nat} {y : H} {q : Value} {zs : List Int} (h : AS wT w g B b y q zs) (hd : DS w' g B) (hg : w.grownBy w' (some g)) : AS wT w' g B b y q zs := by
  obtain ⟨h1, h2, h3, h4, h5, h6, h7, h8⟩ := h
  exact ⟨hd, grown_trans h2 hg, own_gr h3 hg (by omega), h4.grown hg (by simp; omega), h5, h6, h7, h8⟩
theorem AS.below {wT w w' : World} {g B b : Nat} {y : H} {q : Value} {zs : List Int} (h : AS wT w g B b y q zs) (hb : Below w.heap.size w w') : AS wT w' g B b y q zs := by
  obtain ⟨h1, h2, h3, h4, h5, h6, h7, h8⟩ := h
  have hs := h2.size
  exact ⟨h1.below (hb.mono (by omega)), gr_below h2 (hb.mono hs), own_keep h3 hb, h4.below hb h4.lt, h5, h6, h7, h8⟩
theorem AS.app {wT w w1 w4 : World} {g B b n : Nat} {y : H} {q v4 : Value} {zs : List Int} {z : Int} (h : AS wT w g B b y q zs) (hb : Below w.heap.size w w1) (hg : w1.grownBy w4 q.ownBlock) (ho : OwnI w4 wT.heap.size v4 (zs ++ [z])) : AS wT w4 g B b y v4 (zs ++ [z]) := by
  obtain ⟨h1, h2, h3, h4, h5, h6, h7, h8⟩ := h.below hb
  have hs := h2.size
  have hk : Below wT.heap.size w1 w4 := (Below.refl _ _).grown hg hs (fun j hj => (h3.lt j hj).1)
  exact ⟨h1.below (hk.mono h8), gr_below h2 hk, ho, h4.below hk h5, h5, h6, h7, h8⟩
theorem own_nums {w : World} {B cap : Nat} {a : Option Addr} {zs : List Int} (h : OwnI w B (.slice a zs.length cap) zs) : Nms w a zs := by
  rcases h.2 with ⟨h2, hn⟩ | ⟨g', cap', cur, hv, hgB, hh, _⟩
  · exact .inl hn
  · have e : a = some ⟨g', 0, none⟩ := by simpa using congrArg (fun v => match v with | .slice a _ _ => a | _ => none) hv
    subst e
    exact .inr ⟨g', 0, rfl, OwnI.row h⟩
/-- The commit is made, and laid behind it. -/
theorem XS.lay {wT w w' : World} {g B b : Nat} {y : H} {qi q : Value} {zs : List Int} {l : List Sg} (h : AS wT w g B b y qi zs) (ho : OwnS w' w.heap.size q l) (hb : Below w.heap.size w w') (c r : Int) (i : ByteArray) :
    XS wT (w'.alloc (.cells #[.int .i64 c, .int .i64 r, .string i, q] 29)) g B w'.heap.size ⟨c, r, i, l⟩ q := by
  have hs := h.2.1.size
  have h' := (h.below hb).below (below_one w' (.cells #[.int .i64 c, .int .i64 r, .string i, q] 29))
  exact ⟨blk_new w' _ _, own_less (own_keep ho (below_one _ _)) hs, h'.1, h'.2.1, Nat.le_trans hs hb.size, h.2.2.2.2.2.2.1, h.2.2.2.2.2.2.2⟩
/-- The commit is made, its block was laid ahead. -/
theorem XS.put {wT w : World} {g B b : Nat} {q : Value} {l : List Sg} (hB : Blk w b [.int .i64 0, .int .i64 0, .string ⟨#[]⟩, .slice none 0 0] 29) (ho : OwnS w wT.heap.size q l) (hd : DS w g B) (hg : wT.grownBy w (some g)) (hb : wT.heap.size ≤ b) (hgT : g < wT.heap.size) (hBT : B ≤ wT.heap.size) (c r : Int) (i : ByteArray) :
    XS wT ((((w.setCell ⟨b, 0, none⟩ (.int .i64 c)).setCell ⟨b, 1, none⟩ (.int .i64 r)).setCell ⟨b, 2, none⟩ (.string i)).setCell ⟨b, 3, none⟩ q) g B b ⟨c, r, i, l⟩ q := by
  have b1 := hB.set 0 (.int .i64 c)
  have b2 := b1.set 1 (.int .i64 r)
  have b3 := b2.set 2 (.string i)
  have b4 := b3.set 3 q
  have o1 := own_else ho (gr_set w b 0 (.int .i64 c)) (own_ne ho hB)
  have o2 := own_else o1 (gr_set _ b 1 (.int .i64 r)) (own_ne o1 b1)
  have o3 := own_else o2 (gr_set _ b 2 (.string i)) (own_ne o2 b2)
  have o4 := own_else o3 (gr_set _ b 3 q) (own_ne o3 b3)
  have hk : Below wT.heap.size w ((((w.setCell ⟨b, 0, none⟩ (.int .i64 c)).setCell ⟨b, 1, none⟩ (.int .i64 r)).setCell ⟨b, 2, none⟩ (.string i)).setCell ⟨b, 3, none⟩ q) := ((((Below.refl _ _).setCell hb _).setCell hb _).setCell hb _).setCell hb _
  exact ⟨b4, o4, hd.below (hk.mono hBT), gr_below hg hk, hb, hgT, hBT⟩
/-- From block U on the worlds are alike. -/
def Abv (U : Nat) (w W : World) : Prop := ∀ k, U ≤ k → W.heap[k]? = w.heap[k]?
theorem Abv.refl (U : Nat) (w : World) : Abv U w w := fun _ _ => rfl
theorem Abv.set {U b : Nat} {w W : World} (h : Abv U w W) (hb : b < U) (k : Nat) (u : Value) : Abv U w (W.setCell ⟨b, k, none⟩ u) := fun j hj =>
  (heap_setCell_other W ⟨b, k, none⟩ j u (show j ≠ b by omega)).trans (h j hj)
theorem VO.abv {U : Nat} {w W : World} {a : Option Addr} {l : List V} (h : VO w a l) (hA : Abv U w W) (ha : ∀ b o, a = some ⟨b, o, none⟩ → U ≤ b) : VO W a l := by
  rcases h with h | ⟨b, o, rfl, h⟩
  · exact .inl h
  · refine .inr ⟨b, o, rfl, fun j hj => ?_⟩
    have e := hA b (ha b o rfl)
    rw [World.cell?_of_block (a := ⟨b, o + j * 2, none⟩) e, World.cell?_of_block (a := ⟨b, o + j * 2 + 1, none⟩) e]
    exact h j hj
theorem SO.abv {U : Nat} {w W : World} {a : Option Addr} {l : List Sg} (h : SO w a l) (hA : Abv U w W) (ha : ∀ b o, a = some ⟨b, o, none⟩ → U ≤ b) : SO W a l := by
  rcases h with h | ⟨b, o, rfl, h⟩
  · exact .inl h
  · refine .inr ⟨b, o, rfl, fun j hj => ?_⟩
    have e := hA b (ha b o rfl)
    rw [World.cell?_of_block (a := ⟨b, o + j * 2, none⟩) e, World.cell?_of_block (a := ⟨b, o + j * 2 + 1, none⟩) e]
    exact h j hj
theorem OwnS.sl {w : World} {B cap : Nat} {a : Option Addr} {l : List Sg} (h : OwnS w B (.slice a l.length cap) l) : SO w a l ∧ ∀ b o, a = some ⟨b, o, none⟩ → B ≤ b := by
  obtain ⟨a', cap', e, hO, _⟩ := OwnS.o h
  simp only [Value.slice.injEq, true_and] at e
  obtain ⟨rfl, rfl⟩ := e
  refine ⟨hO, fun b o e => ?_⟩
  subst e
  exact (h.lt b rfl).1
end Go.Proofs.YtbpmjejmeaifbaaGreatDoor
