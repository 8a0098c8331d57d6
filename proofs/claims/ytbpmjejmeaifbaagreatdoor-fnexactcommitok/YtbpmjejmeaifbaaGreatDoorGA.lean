/- Plain facts on validators as texts: shown and read; of no Go text. No conditions. What the two ShowVals answer; old memory stays. Conditions: rows that a machine can hold. Worlds that grew by one block; the row of the table of validators. Conditions: none of ours. What the laws' helpers szValS, toVal, toValS, eqVal and eqValS answer; old memory stays. Conditions: rows that a machine can hold. What the two ValsHash answer, and the walk of the exact law of ValsHash: it answers true; old memory stays. Conditions: rows that a machine can hold; the table. -/
import Derived.Test.YtbpmjejmeaifbaaGreatDoorKn
import Derived.Test.YtbpmjejmeaifbaaGreatDoorVs
import Derived.Test.YtbpmjejmeaifbaaGreatDoorOk
import Derived.Test.YtbpmjejmeaifbaaGreatDoorVar
import Derived.Test.YtbpmjejmeaifbaaGreatDoorBe
import Derived.Deep.Heap
import Derived.Test.YtbpmjejmeaifbaaGreatDoorVl
import Derived.Test.YtbpmjejmeaifbaaGreatDoorCa
import Derived.Test.YtbpmjejmeaifbaaGreatDoorSho
namespace Go.Proofs.YtbpmjejmeaifbaaGreatDoor.Num
set_option linter.unusedVariables false
/-- How many, and of each who and how much. -/
def shB (n : Int) (l : List V) : ByteArray := l.foldl (fun s v => s ++ (var v.i ++ var v.p)) (var n)
theorem shB_snoc (n : Int) (l : List V) (k : Nat) (h : k < l.length) : shB n (l.take (k + 1)) = shB n (l.take k) ++ (var l[k].i ++ var l[k].p) := by
  unfold shB
  rw [List.take_succ_eq_append_getElem h, List.foldl_append]; rfl
theorem shB_size (n : Int) (l : List V) : ∀ k, k ≤ l.length → (shB n (l.take k)).size ≤ 7 + 14 * k
  | 0, _ => by have := var_size n; simpa [shB] using this
  | k + 1, h => by
    have ih := shB_size n l k (by omega)
    have h1 := var_size l[k].i
    have h2 := var_size l[k].p
    rw [shB_snoc n l k h, ByteArray.size_append, ByteArray.size_append]; omega
theorem shB_ge (n : Int) (l : List V) : ∀ k, k ≤ l.length → (var n).size ≤ (shB n (l.take k)).size
  | 0, _ => by simp [shB]
  | k + 1, h => by
    have ih := shB_ge n l k (by omega)
    rw [shB_snoc n l k h, ByteArray.size_append]; omega
def showV (l : List V) : ByteArray := bif vOk l then shB l.length l else ⟨#[]⟩
theorem showV_no {l : List V} (h : vOk l = false) : showV l = ⟨#[]⟩ := by unfold showV; rw [h]; rfl
theorem showV_yes {l : List V} (h : vOk l = true) : showV l = shB l.length l := by unfold showV; rw [h]; rfl
theorem showV_size (l : List V) : (showV l).size ≤ 105 := by
  cases h : vOk l with
  | false => rw [showV_no h]; show 0 ≤ 105; omega
  | true =>
    have := shB_size l.length l l.length (Nat.le_refl _)
    have := (len_ok h).2
    rw [showV_yes h]
    rw [List.take_length] at *
    omega
/-- The validator that is read from a place on, and where the next one begins. -/
def pairAt (s : ByteArray) (a : Nat) : V := ⟨(rvAt s a).1, (rvAt s (a + (rvAt s a).2)).1⟩
def nxt (s : ByteArray) (a : Nat) : Nat := a + (rvAt s a).2 + (rvAt s (a + (rvAt s a).2)).2
def atJ (s : ByteArray) (a : Nat) : Nat → Nat
  | 0 => a
  | j + 1 => nxt s (atJ s a j)
def rdl (s : ByteArray) (a : Nat) : Nat → List V
  | 0 => []
  | j + 1 => rdl s a j ++ [pairAt s (atJ s a j)]
theorem rdl_length (s : ByteArray) (a : Nat) : ∀ j, (rdl s a j).length = j
  | 0 => rfl
  | j + 1 => by rw [rdl, List.length_append, rdl_length s a j]; rfl
theorem rdl_at (s : ByteArray) (a : Nat) : ∀ c j (hj : j < c) (h : j < (rdl s a c).length), (rdl s a c)[j] = pairAt s (atJ s a j)
  | c + 1, j, hj, h => by
    have hl := rdl_length s a c
    by_cases e : j = c
    · subst e
      have : (rdl s a (j + 1))[j]? = some (pairAt s (atJ s a j)) := by
        rw [rdl, List.getElem?_append_right (by omega), hl]; simp
      rw [List.getElem?_eq_getElem h] at this
      exact Option.some.inj this
    · have ih := rdl_at s a c j (by omega) (by omega)
      have : (rdl s a (c + 1))[j]? = some (pairAt s (atJ s a j)) := by
        rw [rdl, List.getElem?_append_left (by omega), List.getElem?_eq_getElem (by omega), ih]
      rw [List.getElem?_eq_getElem h] at this
      exact Option.some.inj this
theorem nxt_le (s : ByteArray) (a : Nat) (h : a ≤ s.size) : nxt s a ≤ s.size := by
  have h1 := (rvAt_bound s a).1
  have h2 := (rvAt_bound s (a + (rvAt s a).2)).1
  unfold nxt; omega
theorem atJ_le (s : ByteArray) (a : Nat) (h : a ≤ s.size) : ∀ j, atJ s a j ≤ s.size
  | 0 => h
  | j + 1 => nxt_le s _ (atJ_le s a h j)
/-- Where a number is missing nobody is right. -/
theorem rdl_bad (s : ByteArray) (a c j : Nat) (hj : j < c) (h : (pairAt s (atJ s a j)).i < 1 ∨ (pairAt s (atJ s a j)).p < 1) : vOk (rdl s a c) = false := by
  have hl := rdl_length s a c
  have hj' : j < (rdl s a c).length := by omega
  cases ho : vOk (rdl s a c) with
  | false => rfl
  | true =>
    have := good_of_ok ho hj'
    rw [rdl_at s a c j hj hj'] at this
    omega
/-- The validators of which s is made. -/
def readV (s : ByteArray) : List V × Bool :=
  bif decide ((rvAt s 0).2 = 0) || decide (7 < (rvAt s 0).1) then ([], false) else
  bif decide (showV (rdl s (rvAt s 0).2 (rvAt s 0).1.toNat) = s) then (rdl s (rvAt s 0).2 (rvAt s 0).1.toNat, true) else ([], false)
theorem readV_no0 {s : ByteArray} (h : (rvAt s 0).2 = 0 ∨ 7 < (rvAt s 0).1) : readV s = ([], false) := by
  unfold readV
  rw [show (decide ((rvAt s 0).2 = 0) || decide (7 < (rvAt s 0).1)) = true from by simpa using h]; rfl
theorem readV_eq {s : ByteArray} (h0 : 0 < (rvAt s 0).2) (h7 : (rvAt s 0).1 ≤ 7) : readV s = bif decide (showV (rdl s (rvAt s 0).2 (rvAt s 0).1.toNat) = s) then (rdl s (rvAt s 0).2 (rvAt s 0).1.toNat, true) else ([], false) := by
  unfold readV
  rw [show (decide ((rvAt s 0).2 = 0) || decide (7 < (rvAt s 0).1)) = false from by simp; omega]; rfl
theorem read_ne {s : ByteArray} {l : List V} (h0 : 0 < s.size) (h : vOk l = false) : showV l ≠ s := by
  intro e
  rw [showV_no h] at e
  rw [← e] at h0
  exact absurd h0 (Nat.lt_irrefl 0)
theorem readV_bad {s : ByteArray} (h0 : 0 < (rvAt s 0).2) (h7 : (rvAt s 0).1 ≤ 7) (h : vOk (rdl s (rvAt s 0).2 (rvAt s 0).1.toNat) = false) : readV s = ([], false) := by
  have hs := (rvAt_bound s 0).1
  rw [readV_eq h0 h7, decide_eq_false (read_ne (by omega) h)]; rfl
theorem readV_len (s : ByteArray) : (readV s).1.length ≤ 7 := by
  by_cases h : (rvAt s 0).2 = 0 ∨ 7 < (rvAt s 0).1
  · rw [readV_no0 h]; simp
  · rw [readV_eq (by omega) (by omega)]
    cases decide (showV (rdl s (rvAt s 0).2 (rvAt s 0).1.toNat) = s) with
    | false => simp
    | true => rw [cond_true, rdl_length]; omega
end Go.Proofs.YtbpmjejmeaifbaaGreatDoor.Num
namespace Go.Proofs.YtbpmjejmeaifbaaGreatDoor
open Go.RowKit
open Num
set_option linter.unusedVariables false
set_option maxHeartbeats 800000 in
set_option maxRecDepth 100000 in
theorem spec_showV (a : Option Addr) (l : List V) (cap : Nat) (w : World) (hl : VO w a l) (hlen : l.length ≤ 9223372036854775807) :
    Calls Tryz.prog 70 #[.slice a l.length cap] w fun e w' => e = .returned (.string (showV l)) ∧ Below w.heap.size w w' := by
  have kO := spec_okV a l cap w hl hlen
  have HL : Hid (VO w a l) := hl
  clear hl
  rcases hO : vOk l with _ | _
  · have HE : Hid (showV l = ⟨#[]⟩) := showV_no hO
    rw [hO] at kO
    clear hO
    go_enter Tryz.func70, Tryz.ntmps70
    go_wp2_with fail
    refine kO.mono ?_
    rintro e w1 ⟨rfl, hb1⟩
    go_wp2
    go_ret
    exact ⟨by rw [HE.out]; rfl, hb1⟩
  · have HE : Hid (showV l = shB l.length l) := showV_yes hO
    have h7 := len_ok hO
    rw [hO] at kO
    clear hO
    rcases HL.out with h0 | ⟨b, o, rfl, hv0⟩
    · omega
    have HV : Hid (VAt w b o l) := hv0
    clear hv0
    go_enter Tryz.func70, Tryz.ntmps70
    go_wp2_with fail
    refine kO.mono ?_
    rintro e w1 ⟨rfl, hb1⟩
    go_wp2_with fail
    refine (spec_var _ _).mono ?_
    rintro e w2 ⟨rfl, hb2⟩
    have hb3 := hb1.trans (hb2.mono hb1.size)
    have HB3 : Hid (Below w.heap.size w w2) := hb3
    clear hb1 hb2 hb3
    go_wp2
    go_loopw [4, 3] (fun iv sv wr => ∃ (k : Nat) (s : ByteArray), k ≤ l.length ∧ iv = .int .i64 k ∧ sv = .string s ∧ Hid (s = shB l.length (l.take k)) ∧ s.size ≤ 105 ∧ Below w.heap.size w wr) (fun iv _ _ => l.length - (intOf iv).toNat)
    case atStart => exact ⟨0, _, Nat.zero_le _, rfl, rfl, rfl, by have := var_size (l.length : Int); omega, HB3.out⟩
    case round =>
      obtain ⟨k, s, hk, rfl, rfl, HS, hs, hb⟩ := hrel
      by_cases hlt : k < l.length
      · have hltz : (k : Int) < (l.length : Int) := by omega
        have hne := bel_some wr
        obtain ⟨v, hvE⟩ : ∃ v, l[k] = v := ⟨_, rfl⟩
        have c1 := fun p : Bel wr => p.cell ((HV.out.below hb) k hlt).1
        have c2 := fun p : Bel wr => p.cell ((HV.out.below hb) k hlt).2
        rw [hvE] at c1 c2
        have hsz := shB_size l.length l (k + 1) (by omega)
        have HN := shB_snoc l.length l k hlt
        rw [hvE, ← HS.out, ← ByteArray.append_assoc] at HN
        rw [HN] at hsz
        have HN' : Hid (s ++ var v.i ++ var v.p = shB l.length (l.take (k + 1))) := HN.symm
        have hv1 := var_size v.i
        have hv2 := var_size v.p
        have e1 := ByteArray.size_append (a := s) (b := var v.i)
        have g1 : ¬ 9223372036854775807 < s.size + (var v.i).size := by omega
        have g2 : ¬ 9223372036854775807 < (s ++ var v.i).size + (var v.p).size := by omega
        have hsz' : (s ++ var v.i ++ var v.p).size ≤ 105 := by omega
        clear HN hsz hvE e1 hv1 hv2
        go_wp2_with fail
        refine wp_region_below (by kernel_rfl) (by kernel_rfl) ?_
        repeat (go_big_quiet_step ((go_at_call 72; exact bel_of (spec_var _ _))))
        refine wpQuiet_nil ?_
        intro _ hw'
        obtain ⟨pq, hw''⟩ := hw'
        subst hw''
        have hb3 := hb.trans (pq.h.mono hb.size)
        go_wp2
        go_roundw
        case rel => exact ⟨k + 1, _, by omega, by go_num, rfl, HN', hsz', hb3⟩
        case measure => simp [intOf]; omega
      · have hltz : ¬ (k : Int) < (l.length : Int) := by omega
        have HF : Hid (showV l = s) := by show _ = _; rw [HE.out, HS.out, List.take_of_length_le (by omega)]
        go_wp2
        go_ret
        exact ⟨by rw [HF.out]; rfl, hb⟩
set_option maxHeartbeats 800000 in
set_option maxRecDepth 100000 in
theorem impl_showV (a : Option Addr) (l : List V) (cap : Nat) (w : World) (hl : VO w a l) (hlen : l.length ≤ 9223372036854775807) :
    Calls Tryz.prog 61 #[.slice a l.length cap] w fun e w' => e = .returned (.string (showV l)) ∧ Below w.heap.size w w' := by
  have kO := impl_okV a l cap w hl hlen
  have HL : Hid (VO w a l) := hl
  clear hl
  rcases hO : vOk l with _ | _
  · have HE : Hid (showV l = ⟨#[]⟩) := showV_no hO
    rw [hO] at kO
    clear hO
    go_enter Tryz.func61, Tryz.ntmps61
    go_wp2_with fail
    refine kO.mono ?_
    rintro e w1 ⟨rfl, hb1⟩
    go_wp2
    go_ret
    exact ⟨by rw [HE.out]; rfl, hb1⟩
  · have HE : Hid (showV l = shB l.length l) := showV_yes hO
    have h7 := len_ok hO
    rw [hO] at kO
    clear hO
    rcases HL.out with h0 | ⟨b, o, rfl, hv0⟩
    · omega
    have HV : Hid (VAt w b o l) := hv0
    clear hv0
    go_enter Tryz.func61, Tryz.ntmps61
    go_wp2_with fail
    refine kO.mono ?_
    rintro e w1 ⟨rfl, hb1⟩
    go_wp2_with fail
    refine (impl_var _ _).mono ?_
    rintro e w2 ⟨rfl, hb2⟩
    have hb3 := hb1.trans (hb2.mono hb1.size)
    have HB3 : Hid (Below w.heap.size w w2) := hb3
    clear hb1 hb2 hb3
    go_wp2
    go_loopw [14, 3] (fun iv sv wr => ∃ (k : Nat) (s : ByteArray), k ≤ l.length ∧ iv = .int .i64 k ∧ sv = .string s ∧ Hid (s = shB l.length (l.take k)) ∧ s.size ≤ 105 ∧ Below w.heap.size w wr) (fun iv _ _ => l.length - (intOf iv).toNat)
    case atStart => exact ⟨0, _, Nat.zero_le _, rfl, rfl, rfl, by have := var_size (l.length : Int); omega, HB3.out⟩
    case round =>
      obtain ⟨k, s, hk, rfl, rfl, HS, hs, hb⟩ := hrel
      by_cases hlt : k < l.length
      · have hltz : (k : Int) < (l.length : Int) := by omega
        obtain ⟨v, hvE⟩ : ∃ v, l[k] = v := ⟨_, rfl⟩
        have c1 := ((HV.out.below hb) k hlt).1
        have c2 := ((HV.out.below hb) k hlt).2
        rw [hvE] at c1 c2
        have hsz := shB_size l.length l (k + 1) (by omega)
        have HN := shB_snoc l.length l k hlt
        rw [hvE, ← HS.out] at HN
        rw [HN] at hsz
        have HN' : Hid (s ++ (var v.i ++ var v.p) = shB l.length (l.take (k + 1))) := HN.symm
        have hv1 := var_size v.i
        have hv2 := var_size v.p
        have e1 := ByteArray.size_append (a := var v.i) (b := var v.p)
        have g1 : ¬ 9223372036854775807 < (var v.i).size + (var v.p).size := by omega
        have g2 : ¬ 9223372036854775807 < s.size + (var v.i ++ var v.p).size := by omega
        have hsz' : (s ++ (var v.i ++ var v.p)).size ≤ 105 := by omega
        clear HN hsz hvE e1 hv1 hv2
        go_wp2_with fail
        have d1 : (wr.alloc (Obj.cells #[Value.int IntKind.i64 v.i, Value.int IntKind.i64 v.p] 69)).cell? ⟨wr.heap.size, 0, none⟩ = some (.int .i64 v.i) := by simp
        have d2 : (wr.alloc (Obj.cells #[Value.int IntKind.i64 v.i, Value.int IntKind.i64 v.p] 69)).cell? ⟨wr.heap.size, 1, none⟩ = some (.int .i64 v.p) := by simp
        replace hb : Below w.heap.size w (wr.alloc (Obj.cells #[Value.int IntKind.i64 v.i, Value.int IntKind.i64 v.p] 69)) := hb.alloc hb.size _
        clear c1 c2
        generalize wr.alloc (Obj.cells #[Value.int IntKind.i64 v.i, Value.int IntKind.i64 v.p] 69) = wn at *
        have hne := bel_some wn
        have c1 := fun p : Bel wn => p.cell d1
        have c2 := fun p : Bel wn => p.cell d2
        clear d1 d2
        refine wp_region_below (by kernel_rfl) (by kernel_rfl) ?_
        repeat (go_big_quiet_step ((go_at_call 96; exact bel_of (impl_var _ _))))
        refine wpQuiet_nil ?_
        intro _ hw'
        obtain ⟨pq, hw''⟩ := hw'
        subst hw''
        have hb3 := hb.trans (pq.h.mono hb.size)
        go_wp2
        go_roundw
        case rel => exact ⟨k + 1, _, by omega, by go_num, rfl, HN', hsz', hb3⟩
        case measure => simp [intOf]; omega
      · have hltz : ¬ (k : Int) < (l.length : Int) := by omega
        have HF : Hid (showV l = s) := by show _ = _; rw [HE.out, HS.out, List.take_of_length_le (by omega)]
        go_wp2
        go_ret
        exact ⟨by rw [HF.out]; rfl, hb⟩
end Go.Proofs.YtbpmjejmeaifbaaGreatDoor
namespace Go.Proofs.YtbpmjejmeaifbaaGreatDoor
open Go.RowKit
set_option linter.unusedVariables false
theorem gr_refl (w : World) (r : Option Nat) : w.grownBy w r := ⟨rfl, rfl, rfl, Nat.le_refl _, fun _ _ _ => rfl⟩
theorem gr_trans {a b c : World} {r : Option Nat} (h : a.grownBy b r) (k : b.grownBy c r) : a.grownBy c r :=
  ⟨k.os.trans h.os, k.tape.trans h.tape, k.output.trans h.output, Nat.le_trans h.size k.size, fun j hj hr => (k.block j (Nat.lt_of_lt_of_le hj h.size) hr).trans (h.block j hj hr)⟩
theorem gr_set (w : World) (g j : Nat) (u : Value) : w.grownBy (w.setCell ⟨g, j, none⟩ u) (some g) :=
  ⟨rfl, rfl, rfl, by rw [Deep.nblk_setCell]; exact Nat.le_refl _, fun k _ hr => Deep.blk_setCell_other w ⟨g, j, none⟩ u k (fun e => hr (by rw [e]))⟩
theorem info33f : ∃ i, Tryz.prog.info? 69 = some i ∧ i.zero = some (.agg #[.int .i64 0, .int .i64 0]) ∧ i.size = 2 ∧ i.bytes = 16 :=
  info_parts (by kernel_rfl)
end Go.Proofs.YtbpmjejmeaifbaaGreatDoor
namespace Go.Proofs.YtbpmjejmeaifbaaGreatDoor
open Go.RowKit
open Num
set_option linter.unusedVariables false
set_option maxHeartbeats 400000 in
set_option maxRecDepth 100000 in
theorem sz_any (a : Option Addr) (n cap : Nat) (left : Int) (w : World) (hn : n ≤ 9223372036854775807) (h0 : 0 ≤ left) (h1 : left ≤ 1048576) :
    Calls Tryz.prog 14 #[.slice a n cap, .int .i64 left] w fun e w' => e = .returned (.int .i64 (if left < (n : Int) then -1 else left - (n : Int))) ∧ w' = w := by
  by_cases h : left < (n : Int)
  · rw [if_pos h]
    have h' : left - (n : Int) < 0 := by omega
    go_enter Tryz.func14, Tryz.ntmps14
    go_wp2
    go_ret
    exact ⟨rfl, rfl⟩
  · rw [if_neg h]
    have h' : ¬ left - (n : Int) < 0 := by omega
    go_enter Tryz.func14, Tryz.ntmps14
    go_wp2
    go_ret
    exact ⟨rfl, rfl⟩
set_option maxHeartbeats 400000 in
set_option maxRecDepth 100000 in
theorem toVal_any (x y : Int) (w : World) :
    Calls Tryz.prog 41 #[.agg #[.int .i64 x, .int .i64 y]] w fun e w' => e = .returned (.agg #[.int .i64 x, .int .i64 y]) ∧ Below w.heap.size w w' := by
  go_enter Tryz.func41, Tryz.ntmps41
  go_wp2
  refine bodyPost_ret (v := .agg #[.int .i64 x, .int .i64 y]) (by simp [results, Tryz.results41, go_sem]) rfl ⟨rfl, ?_⟩
  exact (((Below.refl _ _).alloc (Nat.le_refl _) _).alloc (by simp) _).alloc (by simp; omega) _
set_option maxHeartbeats 400000 in
set_option maxRecDepth 100000 in
theorem eqVal_any (x y x' y' : Int) (w : World) :
    Calls Tryz.prog 43 #[.agg #[.int .i64 x, .int .i64 y], .agg #[.int .i64 x', .int .i64 y']] w fun e w' => e = .returned (.bool (decide (x = x') && decide (y = y'))) ∧ Below w.heap.size w w' := by
  by_cases hx : x = x'
  · by_cases hy : y = y'
    · subst hx hy
      go_enter Tryz.func43, Tryz.ntmps43
      go_wp2
      go_ret
      exact ⟨by simp, below_two _ _ _⟩
    · subst hx
      go_enter Tryz.func43, Tryz.ntmps43
      go_wp2
      go_ret
      exact ⟨by simp [hy], below_two _ _ _⟩
  · go_enter Tryz.func43, Tryz.ntmps43
    go_wp2
    go_ret
    exact ⟨by simp [hx], below_two _ _ _⟩
set_option maxHeartbeats 400000 in
set_option maxRecDepth 100000 in
theorem toValS_any (a : Option Addr) (l : List V) (cap : Nat) (w : World) (hl : VO w a l) (hlen : l.length ≤ 1048576) :
    Calls Tryz.prog 17 #[.slice a l.length cap] w fun e w' => e = .returned (.slice (some ⟨w.heap.size, 0, none⟩) l.length l.length) ∧ VAt w' w.heap.size 0 l ∧ Room w' w.heap.size 0 (l.length * 2) ∧ Below w.heap.size w w' := by
  obtain ⟨i0, hi, hz0, hz1, hz2⟩ := info33f
  have HL : Hid (VO w a l) := hl
  clear hl
  go_enter Tryz.func17, Tryz.ntmps17
  go_wp2_with (at_make; refine wpList_make_full _ rfl _ _ 24 rfl w.heap.size 69 i0 (.agg #[.int .i64 0, .int .i64 0]) 2 Tryz.underlying24 hi hz0 hz1 _ _ _ _ l.length rfl rfl rfl rfl (by rw [hz2]; omega) (by unfold maxLen; omega) (Nat.le_refl _) ?_; intro w1 hown hgr)
  have hroom : Room w1 w.heap.size 0 (l.length * 2) := fun j hj => by
    rw [Nat.zero_add]
    refine ⟨?_, hown.frozenAt j⟩
    rw [hown.cellAt j (by omega)]
    simp [madeCells]
    exact hj
  have hb1 := below_of_grown hgr
  have hs1 : w.heap.size < w1.heap.size := by
    rcases hown.2 with ⟨h', _⟩ | ⟨g', cap', cur, h', hb, hg, _⟩
    · simp at h'
    · simp only [Value.slice.injEq, Option.some.injEq, Addr.mk.injEq, and_true, true_and] at h'
      rw [← h'.1] at hg
      exact (Array.getElem?_eq_some_iff.1 hg).1
  clear hown hgr
  go_loopw [4] (fun iv wr => ∃ k : Nat, k ≤ l.length ∧ iv = .int .i64 k ∧ Hid (VAt wr w.heap.size 0 (l.take k)) ∧ Hid (Room wr w.heap.size 0 (l.length * 2)) ∧ Below w.heap.size w wr ∧ w.heap.size < wr.heap.size) (fun iv _ => l.length - (intOf iv).toNat)
  case atStart => exact ⟨0, Nat.zero_le _, rfl, fun j hj => by simp at hj, hroom, hb1, hs1⟩
  case round =>
    clear hroom hb1 hs1 w1
    obtain ⟨k, hk, rfl, HA, HR, hb, hsz⟩ := hrel
    by_cases hlt : k < l.length
    · have hltz : (k : Int) < (l.length : Int) := by omega
      rcases HL.out with h0 | ⟨b, o, rfl, hv0⟩
      · omega
      have hv := hv0.below hb
      obtain ⟨v, hvE⟩ : ∃ v, l[k] = v := ⟨_, rfl⟩
      have c1 := (hv k hlt).1
      have c2 := (hv k hlt).2
      rw [hvE] at c1 c2
      clear hv hv0
      go_wp2_with fail
      refine (toVal_any _ _ _).mono ?_
      rintro e w2 ⟨rfl, hb2⟩
      have hr2 := HR.out.below hb2
      have ha2 := HA.out.below hb2
      have hsz2 : w.heap.size < w2.heap.size := by have := hb2.size; omega
      have hb3 := hb.trans (hb2.mono hb.size)
      obtain ⟨s1, f1⟩ := hr2 (k * 2) (by omega)
      obtain ⟨s2, f2⟩ := hr2 (k * 2 + 1) (by omega)
      obtain ⟨u1, e1⟩ := Option.isSome_iff_exists.1 s1
      obtain ⟨u2, e2⟩ := Option.isSome_iff_exists.1 s2
      rw [Nat.zero_add] at e1 e2 f1 f2
      clear s1 s2 c1 c2
      go_wp2
      go_roundw
      case rel =>
        refine ⟨k + 1, by omega, by go_num, ?_, (hr2.set _ _ _).set _ _ _, (hb3.setCell (p := ⟨w.heap.size, k * 2, none⟩) (Nat.le_refl _) _).setCell (p := ⟨w.heap.size, k * 2 + 1, none⟩) (Nat.le_refl _) _, by simpa [World.setCell] using hsz2⟩
        show VAt _ _ _ _
        have hn := ha2.snoc (v := v) (by rw [List.length_take, Nat.min_eq_left (by omega), Nat.zero_add, e1]; rfl) (by rw [List.length_take, Nat.min_eq_left (by omega), Nat.zero_add, e2]; rfl)
        rw [List.length_take, Nat.min_eq_left (by omega), Nat.zero_add, ← hvE, ← List.take_succ_eq_append_getElem hlt, hvE] at hn
        exact hn
      case measure => simp [intOf]; omega
    · have hltz : ¬ (k : Int) < (l.length : Int) := by omega
      have hkl : k = l.length := by omega
      have HA' : Hid (VAt wr w.heap.size 0 l) := by have := HA.out; rw [hkl, List.take_length] at this; exact this
      clear hkl
      go_wp2
      go_ret
      exact ⟨rfl, HA'.out, HR.out, hb⟩
set_option maxHeartbeats 400000 in
set_option maxRecDepth 100000 in
theorem eqValS_any (a a' : Option Addr) (l l' : List V) (cap cap' : Nat) (w : World) (hl : VO w a l) (hl' : VO w a' l') (h1 : l.length ≤ 1099511627776) (h2 : l'.length ≤ 1099511627776) :
    Calls Tryz.prog 20 #[.slice a l.length cap, .slice a' l'.length cap'] w fun e w' => e = .returned (.bool (decide (l = l'))) ∧ Below w.heap.size w w' := by
  by_cases hne : l.length = l'.length
  · have HL : Hid (VO w a l) := hl
    have HL' : Hid (VO w a' l') := hl'
    have HN : Hid (l.length = l'.length) := hne
    have hnz : (l.length : Int) = (l'.length : Int) := by omega
    clear hl hl' hne
    go_enter Tryz.func20, Tryz.ntmps20
    go_wp2
    go_loopw [5] (fun iv wr => ∃ k : Nat, k ≤ l.length ∧ iv = .int .i64 k ∧ Hid (l.take k = l'.take k) ∧ Below w.heap.size w wr) (fun iv _ => l.length - (intOf iv).toNat)
    case atStart => exact ⟨0, Nat.zero_le _, rfl, rfl, Below.refl _ _⟩
    case round =>
      obtain ⟨k, hk, rfl, HA, hb⟩ := hrel
      by_cases hlt : k < l.length
      · have hltz : (k : Int) < (l.length : Int) := by omega
        have hlt' : k < l'.length := by have := HN.out; omega
        have hltz' : (k : Int) < (l'.length : Int) := by omega
        rcases HL.out with h0 | ⟨b, o, rfl, hv0⟩
        · omega
        rcases HL'.out with h0 | ⟨b', o', rfl, hv0'⟩
        · omega
        have hn := bel_some wr
        obtain ⟨v, hvE⟩ : ∃ v, l[k] = v := ⟨_, rfl⟩
        obtain ⟨v', hvE'⟩ : ∃ v, l'[k] = v := ⟨_, rfl⟩
        have c1 := fun p : Bel wr => p.cell ((hv0.below hb) k hlt).1
        have c2 := fun p : Bel wr => p.cell ((hv0.below hb) k hlt).2
        have c3 := fun p : Bel wr => p.cell ((hv0'.below hb) k hlt').1
        have c4 := fun p : Bel wr => p.cell ((hv0'.below hb) k hlt').2
        rw [hvE] at c1 c2
        rw [hvE'] at c3 c4
        clear hv0 hv0'
        go_wp2_with fail
        refine wp_region_below (by kernel_rfl) (by kernel_rfl) ?_
        repeat (go_big_quiet_step ((go_at_call 43; exact bel_of (eqVal_any _ _ _ _ _))))
        refine wpQuiet_nil ?_
        intro _ hw'
        obtain ⟨pq, hw''⟩ := hw'
        subst hw''
        have hb3 := hb.trans (pq.h.mono hb.size)
        by_cases hv : v = v'
        · have HN' : Hid (l.take (k + 1) = l'.take (k + 1)) := by
            show _ = _
            rw [List.take_succ_eq_append_getElem hlt, List.take_succ_eq_append_getElem hlt', HA.out, hvE, hvE', hv]
          have hd : (decide (v.i = v'.i) && decide (v.p = v'.p)) = true := by rw [hv]; simp
          have hd' : (!decide (v.i = v'.i) || !decide (v.p = v'.p)) = false := by rw [hv]; simp
          clear hv hvE hvE' c1 c2 c3 c4
          generalize (!decide (v.i = v'.i) || !decide (v.p = v'.p)) = bb at *
          generalize (decide (v.i = v'.i) && decide (v.p = v'.p)) = cc at *
          subst hd hd'
          go_wp2
          go_roundw
          case rel => exact ⟨k + 1, by omega, by go_num, HN', hb3⟩
          case measure => simp [intOf]; omega
        · have HF : Hid (decide (l = l') = false) := by
            show _ = _
            refine decide_eq_false fun e => hv ?_
            subst e
            rw [← hvE, ← hvE']
          have hd : (decide (v.i = v'.i) && decide (v.p = v'.p)) = false := by
            rw [← Bool.not_eq_true]
            intro h
            simp at h
            exact hv (by cases v; cases v'; simp_all)
          have hd' : (!decide (v.i = v'.i) || !decide (v.p = v'.p)) = true := by
            rw [← Bool.not_and, hd]; rfl
          clear hv hvE hvE' c1 c2 c3 c4
          generalize (!decide (v.i = v'.i) || !decide (v.p = v'.p)) = bb at *
          generalize (decide (v.i = v'.i) && decide (v.p = v'.p)) = cc at *
          subst hd hd'
          go_wp2
          go_ret
          exact ⟨by rw [HF.out]; rfl, hb3⟩
      · have hltz : ¬ (k : Int) < (l.length : Int) := by omega
        have HF : Hid (decide (l = l') = true) := by
          show _ = _
          refine decide_eq_true ?_
          have h := HA.out
          have hn := HN.out
          rwa [List.take_of_length_le (by omega), List.take_of_length_le (by omega)] at h
        go_wp2
        go_ret
        exact ⟨by rw [HF.out]; rfl, hb⟩
  · have hnz : ¬ (l.length : Int) = (l'.length : Int) := by omega
    have HF : Hid (decide (l = l') = false) := decide_eq_false fun e => hne (by rw [e])
    go_enter Tryz.func20, Tryz.ntmps20
    go_wp2
    go_ret
    exact ⟨by rw [HF.out]; rfl, Below.refl _ _⟩
end Go.Proofs.YtbpmjejmeaifbaaGreatDoor
namespace Go.Proofs.YtbpmjejmeaifbaaGreatDoor
open Go.RowKit
open Num
set_option linter.unusedVariables false
/-- The hash of validators; nothing where they are not right. -/
def hashV (l : List V) : ByteArray := bif vOk l then shortB (showV l) else ⟨#[]⟩
set_option maxHeartbeats 400000 in
set_option maxRecDepth 100000 in
theorem impl_vhash (a : Option Addr) (l : List V) (cap : Nat) (w : World) (hl : VO w a l) (hlen : l.length ≤ 9223372036854775807) (hT : Tab w) :
    Calls Tryz.prog 29 #[.slice a l.length cap] w fun e w' => e = .returned (.string (hashV l)) ∧ Below w.heap.size w w' := by
  have kO := impl_okV a l cap w hl hlen
  have HL : Hid (VO w a l) := hl
  have HT : Hid (Tab w) := hT
  have hsz := showV_size l
  clear hl hT
  rcases hO : vOk l with _ | _
  · have HE : Hid (hashV l = ⟨#[]⟩) := by show _ = _; unfold hashV; rw [hO]; rfl
    rw [hO] at kO
    clear hO
    go_enter Tryz.func29, Tryz.ntmps29
    go_wp2_with fail
    refine kO.mono ?_
    rintro e w1 ⟨rfl, hb1⟩
    go_wp2
    go_ret
    exact ⟨by rw [HE.out]; rfl, hb1⟩
  · have HE : Hid (hashV l = shortB (showV l)) := by show _ = _; unfold hashV; rw [hO]; rfl
    rw [hO] at kO
    clear hO
    go_enter Tryz.func29, Tryz.ntmps29
    go_wp2_with fail
    refine kO.mono ?_
    rintro e w1 ⟨rfl, hb1⟩
    go_wp2_with fail
    refine (impl_showV a l cap w1 (HL.out.below hb1) hlen).mono ?_
    rintro e w2 ⟨rfl, hb2⟩
    have hb3 := hb1.trans (hb2.mono hb1.size)
    clear hb1 hb2
    go_wp2_with fail
    refine (impl_short _ w2 (by omega) (HT.out.below hb3 HT.out.pos)).mono ?_
    rintro e w3 ⟨rfl, hb4⟩
    have hb5 := hb3.trans (hb4.mono hb3.size)
    go_wp2
    go_ret
    exact ⟨by rw [HE.out]; rfl, hb5⟩
set_option maxHeartbeats 400000 in
set_option maxRecDepth 100000 in
theorem spec_vhash (a : Option Addr) (l : List V) (cap : Nat) (w : World) (hl : VO w a l) (hlen : l.length ≤ 9223372036854775807) :
    Calls Tryz.prog 35 #[.slice a l.length cap] w fun e w' => e = .returned (.string (hashV l)) ∧ Below w.heap.size w w' := by
  have kO := spec_okV a l cap w hl hlen
  have HL : Hid (VO w a l) := hl
  have hsz := showV_size l
  clear hl
  rcases hO : vOk l with _ | _
  · have HE : Hid (hashV l = ⟨#[]⟩) := by show _ = _; unfold hashV; rw [hO]; rfl
    rw [hO] at kO
    clear hO
    go_enter Tryz.func35, Tryz.ntmps35
    go_wp2_with fail
    refine kO.mono ?_
    rintro e w1 ⟨rfl, hb1⟩
    go_wp2
    go_ret
    exact ⟨by rw [HE.out]; rfl, hb1⟩
  · have HE : Hid (hashV l = shortB (showV l)) := by show _ = _; unfold hashV; rw [hO]; rfl
    rw [hO] at kO
    clear hO
    go_enter Tryz.func35, Tryz.ntmps35
    go_wp2_with fail
    refine kO.mono ?_
    rintro e w1 ⟨rfl, hb1⟩
    go_wp2_with fail
    refine (spec_showV a l cap w1 (HL.out.below hb1) hlen).mono ?_
    rintro e w2 ⟨rfl, hb2⟩
    have hb3 := hb1.trans (hb2.mono hb1.size)
    clear hb1 hb2
    go_wp2_with fail
    refine (spec_short _ w2 (by omega)).mono ?_
    rintro e w3 ⟨rfl, hb4⟩
    have hb5 := hb3.trans (hb4.mono hb3.size)
    go_wp2
    go_ret
    exact ⟨by rw [HE.out]; rfl, hb5⟩
end Go.Proofs.YtbpmjejmeaifbaaGreatDoor
