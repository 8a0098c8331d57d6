/- A drawn region whose callees lay blocks of their own; rows of numbers in cells. Conditions: none of ours. Plain facts on votes: which are right, their digests; of no Go text. No conditions. What impl.putBehind answers; old memory stays. What spec.l1In, the program's small tests and the two VoteOk answer; old memory stays. Conditions: none of ours. -/
import Derived.Test.YtajfmjgaaapjeaaGreatDoorRows
import Derived.Test.YtajfmjgaaapjeaaGreatDoorG2
import Derived.Test.YtajfmjgaaapjeaaGreatDoorG3
import Derived.WalkKit
import Derived.WalkLawsBesides
import Derived.WalkSpells
import Derived.Deep.QuietTactic
import Derived.BigQuiet
import Derived.Deep.Heap
namespace Go.Proofs.YtajfmjgaaapjeaaGreatDoor
open Go.RowKit
open Num
set_option linter.unusedVariables false
/-- A world that lies behind w: old memory stands. -/
structure Bel (w : World) where
  W : World
  h : Below w.heap.size w W
theorem wp_region_below {P : Program} {id : Nat} {Q : Exit → Act → World → Prop} {a : Act} {w : World} {l : List Oper} (hm : P.follows .mixedOrders = true) (hB : Region.lexB .any l.toArray = true)
    (h : wpQuiet P l.toArray (fun w' => ∃ p : Bel w, w' = p.W) (fun a' => ∀ w', (∃ p : Bel w, w' = p.W) → Q .normal a' w') l a) : (Code.region id l.toArray true).wp P Q a w :=
  wp_region_quiet (C := fun w' => ∃ p : Bel w, w' = p.W) hm hB ⟨⟨_, (Below.refl _ w).drew⟩, rfl⟩ (by simpa using h)
theorem bel_of {P : Program} {f : FuncId} {args : Array Value} {w : World} {p : Bel w} {v : Value}
    (h : Calls P f args p.W fun e w' => e = .returned v ∧ Below p.W.heap.size p.W w') : Calls P f args p.W fun e w'' => e = .returned v ∧ ∃ q : Bel w, w'' = q.W :=
  h.mono fun _ w' ⟨he, hb⟩ => ⟨he, ⟨w', p.h.trans (hb.mono p.h.size)⟩, rfl⟩
theorem bel_of_same {P : Program} {f : FuncId} {args : Array Value} {w : World} {p : Bel w} {v : Value}
    (h : Calls P f args p.W fun e w' => e = .returned v ∧ w' = p.W) : Calls P f args p.W fun e w'' => e = .returned v ∧ ∃ q : Bel w, w'' = q.W :=
  h.mono fun _ w' ⟨he, hb⟩ => ⟨he, p, hb⟩
theorem bel_some (w : World) : Nonempty (Bel w) := ⟨⟨w, Below.refl _ _⟩⟩
theorem Bel.cell {w : World} (p : Bel w) {a : Addr} {v : Value} (h : w.cell? a = some v) : p.W.cell? a = some v := by
  rw [p.h.cell (World.block_lt_of_cell? w _ h)]; exact h
/-- Numbers in cells from a place on; .. where a slice says, if any. -/
def IAt (w : World) (b o : Nat) (l : List Int) : Prop := ∀ j (hj : j < l.length), w.cell? ⟨b, o + j, none⟩ = some (.int .i64 l[j])
theorem IAt.below {w w' : World} {b o : Nat} {l : List Int} (h : IAt w b o l) (hb : Below w.heap.size w w') : IAt w' b o l := fun j hj => by
  have h1 := h j hj
  rw [hb.cell (World.block_lt_of_cell? w _ h1)]; exact h1
end Go.Proofs.YtajfmjgaaapjeaaGreatDoor
namespace Go.Proofs.YtajfmjgaaapjeaaGreatDoor.Num
set_option linter.unusedVariables false
theorem in_yes {x lo hi : Int} (h : lo ≤ x ∧ x ≤ hi) : inIs x lo hi = true := by unfold inIs; simp [h.1, h.2]
theorem in_no {x lo hi : Int} (h : ¬ (lo ≤ x ∧ x ≤ hi)) : inIs x lo hi = false := by unfold inIs; simp; omega
theorem in_iff (x lo hi : Int) : inIs x lo hi = true ↔ lo ≤ x ∧ x ≤ hi := by unfold inIs; simp
/-- A vote: height, round, step, id, validator. -/
structure Vt where
  h : Int
  r : Int
  s : Int
  i : ByteArray
  v : Int
def idB (i : ByteArray) : Bool := decide (i.size = 0) || decide (i.size = 8)
def voB (x : Vt) : Bool := inIs x.h 1 1000000 && (inIs x.r 0 1000 && (inIs x.s 1 2 && (idB x.i && inIs x.v 1 99)))
theorem idB_size {i : ByteArray} (h : idB i = true) : i.size ≤ 8 := by
  unfold idB at h
  rw [Bool.or_eq_true, decide_eq_true_eq, decide_eq_true_eq] at h; omega
theorem voB_iff (x : Vt) : voB x = true ↔ (1 ≤ x.h ∧ x.h ≤ 1000000) ∧ (0 ≤ x.r ∧ x.r ≤ 1000) ∧ (1 ≤ x.s ∧ x.s ≤ 2) ∧ (x.i.size = 0 ∨ x.i.size = 8) ∧ (1 ≤ x.v ∧ x.v ≤ 99) := by
  simp [voB, in_iff, idB]
theorem voB_size {x : Vt} (h : voB x = true) : x.i.size ≤ 8 := by
  have := ((voB_iff x).1 h).2.2.2.1; omega
/-- A vote's digest. -/
def digB (x : Vt) : ByteArray := var x.h ++ var x.r ++ var x.s ++ x.i
def dig (x : Vt) : ByteArray := bif voB x then digB x else ⟨#[]⟩
theorem dig_no {x : Vt} (h : voB x = false) : dig x = ⟨#[]⟩ := by unfold dig; rw [h]; rfl
theorem dig_yes {x : Vt} (h : voB x = true) : dig x = digB x := by unfold dig; rw [h]; rfl
theorem dig_size (x : Vt) : (dig x).size ≤ 29 := by
  cases h : voB x with
  | false => rw [dig_no h]; show 0 ≤ 29; omega
  | true =>
    have h1 := voB_size h
    have := var_size x.h
    have := var_size x.r
    have := var_size x.s
    rw [dig_yes h]; unfold digB
    simp only [ByteArray.size_append]; omega
end Go.Proofs.YtajfmjgaaapjeaaGreatDoor.Num
namespace Go.Proofs.YtajfmjgaaapjeaaGreatDoor
open Go.RowKit
open Num
set_option linter.unusedVariables false
theorem ret_str {a b : ByteArray} (h : a = b) : Ending.returned (.string a) = .returned (.string b) := by rw [h]
theorem info5 : (Tryz.prog.info? 5).map (·.size) = some 1 := by kernel_rfl
theorem map_splice (cur cs : List UInt8) (k : Nat) : splice (cur.map u8v) k (cs.map u8v) = (splice cur k cs).map u8v := by
  simp [splice, List.map_take, List.map_drop]
set_option maxHeartbeats 400000 in
theorem impl_pb (g g2 k n m : Nat) (cur cs : List UInt8) (w : World) (hg : w.heap[g]? = some (.cells (cur.map u8v).toArray 5 (0, 0))) (hn : cur.length = n) (hg2 : w.heap[g2]? = some (.cells (cs.map u8v).toArray 5 (0, 0)))
    (hm : cs.length = m) (hkm : k + m ≤ n) (hm1 : 1 ≤ m) (hnn : n ≤ 1099511627776) (B : Nat) (hB : B ≤ g) :
    Calls Tryz.prog 128 #[.slice (some ⟨g, 0, none⟩) n n, .int .i64 k, .slice (some ⟨g2, 0, none⟩) m m] w fun e w' =>
      e = .returned (.int .i64 ((k : Int) + (m : Int))) ∧ w'.heap[g]? = some (.cells ((splice cur k cs).map u8v).toArray 5 (0, 0)) ∧ Below B w w' := by
  have HG : Hid (w.heap[g]? = some (.cells (cur.map u8v).toArray 5 (0, 0))) := hg
  have HG2 : Hid (w.heap[g2]? = some (.cells (cs.map u8v).toArray 5 (0, 0))) := hg2
  have HN : Hid (cur.length = n) := hn
  have HM : Hid (cs.length = m) := hm
  clear hg hg2 hn hm
  have hlt : (k : Int) < (n : Int) := by omega
  have hcp := run_copy_row (P := Tryz.prog) w 22 22 3 5 g k (n - k) (n - k) ⟨g2, 0, none⟩ m m (cur.map u8v).toArray 5 (cs.map u8v) Tryz.underlying22 info5 HG.out (by
      have := HM.out; have h2 : m ≤ n - k := by omega
      simp only [List.length_map, this]; exact (Nat.min_eq_left h2).symm) (fun j v hj => by
      rw [add_at, cell_of_row w g2 j _ 5 (0, 0) HG2.out]; simpa using hj) (by
      have := HM.out; have := HN.out; simp; omega) (u8v_one cs)
  have hlen : (cs.map u8v).length = m := by simpa using HM.out
  rw [hlen] at hcp
  clear hlen
  go_enter Tryz.func128, Tryz.ntmps128
  go_wp2
  go_ret
  refine ⟨rfl, ?_, below_setRow (Below.refl _ _) hB _⟩
  rw [setRow_heap w g _ _ 5 _ HG.out]
  simp [splice, HM.out]
theorem info5f : ∃ i, Tryz.prog.info? 5 = some i ∧ i.zero = some (.int .u8 0) ∧ i.size = 1 ∧ i.bytes = 1 :=
  info_parts (by kernel_rfl)
end Go.Proofs.YtajfmjgaaapjeaaGreatDoor
namespace Go.Proofs.YtajfmjgaaapjeaaGreatDoor
open Go.RowKit
open Num
set_option linter.unusedVariables false
set_option maxHeartbeats 400000 in
theorem spec_in (x lo hi : Int) (w : World) :
    Calls Tryz.prog 79 #[.int .i64 x, .int .i64 lo, .int .i64 hi] w fun e w' => e = .returned (.bool (inIs x lo hi)) ∧ w' = w := by
  have HI : Hid (inIs x lo hi = (decide (lo ≤ x) && decide (x ≤ hi))) := rfl
  by_cases h1 : lo ≤ x
  · by_cases h2 : x ≤ hi
    all_goals
      go_enter Tryz.func79, Tryz.ntmps79
      go_wp2
      go_ret
      exact ⟨by rw [HI.out]; simp [h1, h2], rfl⟩
  · go_enter Tryz.func79, Tryz.ntmps79
    go_wp2
    go_ret
    exact ⟨by rw [HI.out]; simp; omega, rfl⟩
set_option maxHeartbeats 400000 in
theorem impl_isH (x : Int) (w : World) :
    Calls Tryz.prog 93 #[.int .i64 x] w fun e w' => e = .returned (.bool (inIs x 1 1000000)) ∧ w' = w := by
  have HI : Hid (inIs x 1 1000000 = (decide (1 ≤ x) && decide (x ≤ 1000000))) := rfl
  by_cases h1 : 1 ≤ x
  · by_cases h2 : x ≤ 1000000
    all_goals
      go_enter Tryz.func93, Tryz.ntmps93
      go_wp2
      go_ret
      exact ⟨by rw [HI.out]; simp [h1, h2], rfl⟩
  · go_enter Tryz.func93, Tryz.ntmps93
    go_wp2
    go_ret
    exact ⟨by rw [HI.out]; simp; omega, rfl⟩
set_option maxHeartbeats 400000 in
theorem impl_isR (x : Int) (w : World) :
    Calls Tryz.prog 151 #[.int .i64 x] w fun e w' => e = .returned (.bool (inIs x 0 1000)) ∧ w' = w := by
  have HI : Hid (inIs x 0 1000 = (decide (0 ≤ x) && decide (x ≤ 1000))) := rfl
  by_cases h1 : 0 ≤ x
  · by_cases h2 : x ≤ 1000
    all_goals
      go_enter Tryz.func151, Tryz.ntmps151
      go_wp2
      go_ret
      exact ⟨by rw [HI.out]; simp [h1, h2], rfl⟩
  · go_enter Tryz.func151, Tryz.ntmps151
    go_wp2
    go_ret
    exact ⟨by rw [HI.out]; simp; omega, rfl⟩
set_option maxHeartbeats 400000 in
theorem impl_isV (x : Int) (w : World) :
    Calls Tryz.prog 112 #[.int .i64 x] w fun e w' => e = .returned (.bool (inIs x 1 99)) ∧ w' = w := by
  have HI : Hid (inIs x 1 99 = (decide (1 ≤ x) && decide (x ≤ 99))) := rfl
  by_cases h1 : 1 ≤ x
  · by_cases h2 : x ≤ 99
    all_goals
      go_enter Tryz.func112, Tryz.ntmps112
      go_wp2
      go_ret
      exact ⟨by rw [HI.out]; simp [h1, h2], rfl⟩
  · go_enter Tryz.func112, Tryz.ntmps112
    go_wp2
    go_ret
    exact ⟨by rw [HI.out]; simp; omega, rfl⟩
set_option maxHeartbeats 400000 in
theorem impl_isS (x : Int) (w : World) :
    Calls Tryz.prog 152 #[.int .i64 x] w fun e w' => e = .returned (.bool (inIs x 1 2)) ∧ w' = w := by
  have HI : Hid (inIs x 1 2 = (decide (1 ≤ x) && decide (x ≤ 2))) := rfl
  by_cases h1 : x = 1
  · go_enter Tryz.func152, Tryz.ntmps152
    go_wp2
    go_ret
    exact ⟨by rw [HI.out, h1]; rfl, rfl⟩
  · by_cases h2 : x = 2
    · go_enter Tryz.func152, Tryz.ntmps152
      go_wp2
      go_ret
      exact ⟨by rw [HI.out, h2]; rfl, rfl⟩
    · have HF : Hid (inIs x 1 2 = false) := in_no (by omega)
      go_enter Tryz.func152, Tryz.ntmps152
      go_wp2
      go_ret
      exact ⟨by rw [HF.out]; first | rfl | simp [h1, h2], rfl⟩
set_option maxHeartbeats 400000 in
theorem impl_isI (i : ByteArray) (w : World) :
    Calls Tryz.prog 153 #[.string i] w fun e w' => e = .returned (.bool (idB i)) ∧ w' = w := by
  have HI : Hid (idB i = (decide (i.size = 0) || decide (i.size = 8))) := rfl
  by_cases h1 : i = ByteArray.empty
  · subst h1
    go_enter Tryz.func153, Tryz.ntmps153
    go_wp2
    go_ret
    exact ⟨by rw [HI.out]; rfl, rfl⟩
  · have h0 : ¬ i.size = 0 := fun e => h1 (ByteArray.size_eq_zero_iff.1 e)
    have h0' : ¬ (i.size : Int) = 0 := by omega
    have HZ : Hid (¬ i.size = 0) := h0
    clear h0
    by_cases h2 : (i.size : Int) = 8
    · have HE : Hid (i.size = 8) := show i.size = 8 by omega
      go_enter Tryz.func153, Tryz.ntmps153
      go_wp2
      go_ret
      exact ⟨by rw [HI.out, HE.out]; rfl, rfl⟩
    · have HE : Hid (¬ i.size = 8) := show ¬ i.size = 8 by omega
      go_enter Tryz.func153, Tryz.ntmps153
      go_wp2
      go_ret
      exact ⟨by rw [HI.out, decide_eq_false HZ.out, decide_eq_false HE.out]; first | rfl | simp [h1, h2], rfl⟩
/-- A vote as a value, and as cells. -/
def tV (x : Vt) : Value := .agg #[.int .i64 x.h, .int .i64 x.r, .int .i64 x.s, .string x.i, .int .i64 x.v]
def tcs (x : Vt) : Array Value := #[.int .i64 x.h, .int .i64 x.r, .int .i64 x.s, .string x.i, .int .i64 x.v]
def Five (W : World) (g : Nat) (x : Vt) : Prop := W.cell? ⟨g, 0, none⟩ = some (.int .i64 x.h) ∧ W.cell? ⟨g, 1, none⟩ = some (.int .i64 x.r) ∧ W.cell? ⟨g, 2, none⟩ = some (.int .i64 x.s) ∧ W.cell? ⟨g, 3, none⟩ = some (.string x.i) ∧ W.cell? ⟨g, 4, none⟩ = some (.int .i64 x.v)
theorem Five.below {W W' : World} {g B : Nat} {x : Vt} (h : Five W g x) (hb : Below B W W') (hg : g < B) : Five W' g x := by
  obtain ⟨h0, h1, h2, h3, h4⟩ := h
  exact ⟨(hb.cell (p := ⟨g, 0, none⟩) hg).trans h0, (hb.cell (p := ⟨g, 1, none⟩) hg).trans h1, (hb.cell (p := ⟨g, 2, none⟩) hg).trans h2, (hb.cell (p := ⟨g, 3, none⟩) hg).trans h3, (hb.cell (p := ⟨g, 4, none⟩) hg).trans h4⟩
theorem Five.lt {W : World} {g : Nat} {x : Vt} (h : Five W g x) : g < W.heap.size := World.block_lt_of_cell? W _ h.1
theorem five_new (w : World) (x : Vt) (t : TypeId) : Five (w.alloc (.cells (tcs x) t)) w.heap.size x := by
  unfold Five tcs; simp
theorem empty_no {i : ByteArray} (h : ¬ i = ByteArray.empty) : i.toList.isEmpty = false := by
  rw [Go.ByteArray.toList_eq, ← Bool.not_eq_true, List.isEmpty_iff]
  intro e
  apply h
  have h1 : i.size = 0 := by rw [← ByteArray.size_data]; simpa using congrArg List.length e
  exact ByteArray.size_eq_zero_iff.1 h1
set_option maxHeartbeats 1600000 in
theorem spec_vok (x : Vt) (w : World) :
    Calls Tryz.prog 85 #[tV x] w fun e w' => e = .returned (.bool (voB x)) ∧ Below w.heap.size w w' := by
  obtain ⟨x0, x1, x2, x3, x4⟩ := five_new w x 98
  obtain ⟨h, r, s, i, v⟩ := x
  unfold tV
  unfold tcs at *
  simp only at *
  have HV : Hid (voB ⟨h, r, s, i, v⟩ = (inIs h 1 1000000 && (inIs r 0 1000 && (inIs s 1 2 && (idB i && inIs v 1 99))))) := rfl
  generalize voB ⟨h, r, s, i, v⟩ = R at *
  have k0 := fun W => spec_in h 1 1000000 W
  have k1 := fun W => spec_in r 0 1000 W
  have k2 := fun W => spec_in s 1 2 W
  have k4 := fun W => spec_in v 1 99 W
  generalize inIs h 1 1000000 = b0 at *
  generalize inIs r 0 1000 = b1 at *
  generalize inIs s 1 2 = b2 at *
  generalize inIs v 1 99 = b4 at *
  cases b0
  · go_enter Tryz.func85, Tryz.ntmps85
    go_wp2_with fail
    refine (k0 _).mono ?_
    rintro e w1 ⟨rfl, rfl⟩
    go_wp2
    go_ret
    exact ⟨by rw [HV.out]; rfl, (Below.refl _ _).alloc (Nat.le_refl _) _⟩
  · skip
    cases b1
    · go_enter Tryz.func85, Tryz.ntmps85
      go_wp2_with fail
      refine (k0 _).mono ?_
      rintro e w1 ⟨rfl, rfl⟩
      go_wp2_with fail
      refine (k1 _).mono ?_
      rintro e w1 ⟨rfl, rfl⟩
      go_wp2
      go_ret
      exact ⟨by rw [HV.out]; rfl, (Below.refl _ _).alloc (Nat.le_refl _) _⟩
    · skip
      cases b2
      · go_enter Tryz.func85, Tryz.ntmps85
        go_wp2_with fail
        refine (k0 _).mono ?_
        rintro e w1 ⟨rfl, rfl⟩
        go_wp2_with fail
        refine (k1 _).mono ?_
        rintro e w1 ⟨rfl, rfl⟩
        go_wp2_with fail
        refine (k2 _).mono ?_
        rintro e w1 ⟨rfl, rfl⟩
        go_wp2
        go_ret
        exact ⟨by rw [HV.out]; rfl, (Below.refl _ _).alloc (Nat.le_refl _) _⟩
      · skip
        by_cases g0 : i = ByteArray.empty
        · subst g0
          have HJ : Hid (idB ByteArray.empty = true) := rfl
          cases b4
          · go_enter Tryz.func85, Tryz.ntmps85
            go_wp2_with fail
            refine (k0 _).mono ?_
            rintro e w1 ⟨rfl, rfl⟩
            go_wp2_with fail
            refine (k1 _).mono ?_
            rintro e w1 ⟨rfl, rfl⟩
            go_wp2_with fail
            refine (k2 _).mono ?_
            rintro e w1 ⟨rfl, rfl⟩
            go_wp2_with fail
            refine (k4 _).mono ?_
            rintro e w1 ⟨rfl, rfl⟩
            go_wp2
            go_ret
            exact ⟨by rw [HV.out]; rw [HJ.out]; rfl, (Below.refl _ _).alloc (Nat.le_refl _) _⟩
          · go_enter Tryz.func85, Tryz.ntmps85
            go_wp2_with fail
            refine (k0 _).mono ?_
            rintro e w1 ⟨rfl, rfl⟩
            go_wp2_with fail
            refine (k1 _).mono ?_
            rintro e w1 ⟨rfl, rfl⟩
            go_wp2_with fail
            refine (k2 _).mono ?_
            rintro e w1 ⟨rfl, rfl⟩
            go_wp2_with fail
            refine (k4 _).mono ?_
            rintro e w1 ⟨rfl, rfl⟩
            go_wp2
            go_ret
            exact ⟨by rw [HV.out]; rw [HJ.out]; rfl, (Below.refl _ _).alloc (Nat.le_refl _) _⟩
        · have gz : ¬ (i.size : Int) = 0 := fun e => g0 (ByteArray.size_eq_zero_iff.1 (by omega))
          have ge : i.toList.isEmpty = false := empty_no g0
          by_cases g8 : (i.size : Int) = 8
          · have HJ : Hid (idB i = true) := by show _ = _; unfold idB; rw [decide_eq_true (p := i.size = 8) (by omega), Bool.or_true]
            cases b4
            · go_enter Tryz.func85, Tryz.ntmps85
              go_wp2_with fail
              refine (k0 _).mono ?_
              rintro e w1 ⟨rfl, rfl⟩
              go_wp2_with fail
              refine (k1 _).mono ?_
              rintro e w1 ⟨rfl, rfl⟩
              go_wp2_with fail
              refine (k2 _).mono ?_
              rintro e w1 ⟨rfl, rfl⟩
              go_wp2_with fail
              refine (k4 _).mono ?_
              rintro e w1 ⟨rfl, rfl⟩
              go_wp2
              go_ret
              exact ⟨by rw [HV.out]; rw [HJ.out]; rfl, (Below.refl _ _).alloc (Nat.le_refl _) _⟩
            · go_enter Tryz.func85, Tryz.ntmps85
              go_wp2_with fail
              refine (k0 _).mono ?_
              rintro e w1 ⟨rfl, rfl⟩
              go_wp2_with fail
              refine (k1 _).mono ?_
              rintro e w1 ⟨rfl, rfl⟩
              go_wp2_with fail
              refine (k2 _).mono ?_
              rintro e w1 ⟨rfl, rfl⟩
              go_wp2_with fail
              refine (k4 _).mono ?_
              rintro e w1 ⟨rfl, rfl⟩
              go_wp2
              go_ret
              exact ⟨by rw [HV.out]; rw [HJ.out]; rfl, (Below.refl _ _).alloc (Nat.le_refl _) _⟩
          · have HJ : Hid (idB i = false) := by show _ = _; unfold idB; rw [decide_eq_false (by omega), decide_eq_false (by omega)]; rfl
            go_enter Tryz.func85, Tryz.ntmps85
            go_wp2_with fail
            refine (k0 _).mono ?_
            rintro e w1 ⟨rfl, rfl⟩
            go_wp2_with fail
            refine (k1 _).mono ?_
            rintro e w1 ⟨rfl, rfl⟩
            go_wp2_with fail
            refine (k2 _).mono ?_
            rintro e w1 ⟨rfl, rfl⟩
            go_wp2
            go_ret
            exact ⟨by rw [HV.out]; rw [HJ.out]; rfl, (Below.refl _ _).alloc (Nat.le_refl _) _⟩
set_option maxHeartbeats 1600000 in
theorem impl_vok (x : Vt) (w : World) :
    Calls Tryz.prog 136 #[tV x] w fun e w' => e = .returned (.bool (voB x)) ∧ Below w.heap.size w w' := by
  obtain ⟨x0, x1, x2, x3, x4⟩ := five_new w x 98
  obtain ⟨h, r, s, i, v⟩ := x
  unfold tV
  unfold tcs at *
  simp only at *
  have HV : Hid (voB ⟨h, r, s, i, v⟩ = (inIs h 1 1000000 && (inIs r 0 1000 && (inIs s 1 2 && (idB i && inIs v 1 99))))) := rfl
  generalize voB ⟨h, r, s, i, v⟩ = R at *
  have k0 := fun W => impl_isH h W
  have k1 := fun W => impl_isR r W
  have k2 := fun W => impl_isS s W
  have k3 := fun W => impl_isI i W
  have k4 := fun W => impl_isV v W
  generalize inIs h 1 1000000 = b0 at *
  generalize inIs r 0 1000 = b1 at *
  generalize inIs s 1 2 = b2 at *
  generalize inIs v 1 99 = b4 at *
  generalize idB i = b3 at *
  cases b0
  · go_enter Tryz.func136, Tryz.ntmps136
    go_wp2_with fail
    refine (k0 _).mono ?_
    rintro e w1 ⟨rfl, rfl⟩
    go_wp2
    go_ret
    exact ⟨by rw [HV.out]; rfl, (Below.refl _ _).alloc (Nat.le_refl _) _⟩
  · skip
    cases b1
    · go_enter Tryz.func136, Tryz.ntmps136
      go_wp2_with fail
      refine (k0 _).mono ?_
      rintro e w1 ⟨rfl, rfl⟩
      go_wp2_with fail
      refine (k1 _).mono ?_
      rintro e w1 ⟨rfl, rfl⟩
      go_wp2
      go_ret
      exact ⟨by rw [HV.out]; rfl, (Below.refl _ _).alloc (Nat.le_refl _) _⟩
    · skip
      cases b2
      · go_enter Tryz.func136, Tryz.ntmps136
        go_wp2_with fail
        refine (k0 _).mono ?_
        rintro e w1 ⟨rfl, rfl⟩
        go_wp2_with fail
        refine (k1 _).mono ?_
        rintro e w1 ⟨rfl, rfl⟩
        go_wp2_with fail
        refine (k2 _).mono ?_
        rintro e w1 ⟨rfl, rfl⟩
        go_wp2
        go_ret
        exact ⟨by rw [HV.out]; rfl, (Below.refl _ _).alloc (Nat.le_refl _) _⟩
      · skip
        cases b3
        · go_enter Tryz.func136, Tryz.ntmps136
          go_wp2_with fail
          refine (k0 _).mono ?_
          rintro e w1 ⟨rfl, rfl⟩
          go_wp2_with fail
          refine (k1 _).mono ?_
          rintro e w1 ⟨rfl, rfl⟩
          go_wp2_with fail
          refine (k2 _).mono ?_
          rintro e w1 ⟨rfl, rfl⟩
          go_wp2_with fail
          refine (k3 _).mono ?_
          rintro e w1 ⟨rfl, rfl⟩
          go_wp2
          go_ret
          exact ⟨by rw [HV.out]; rfl, (Below.refl _ _).alloc (Nat.le_refl _) _⟩
        · cases b4
          · go_enter Tryz.func136, Tryz.ntmps136
            go_wp2_with fail
            refine (k0 _).mono ?_
            rintro e w1 ⟨rfl, rfl⟩
            go_wp2_with fail
            refine (k1 _).mono ?_
            rintro e w1 ⟨rfl, rfl⟩
            go_wp2_with fail
            refine (k2 _).mono ?_
            rintro e w1 ⟨rfl, rfl⟩
            go_wp2_with fail
            refine (k3 _).mono ?_
            rintro e w1 ⟨rfl, rfl⟩
            go_wp2_with fail
            refine (k4 _).mono ?_
            rintro e w1 ⟨rfl, rfl⟩
            go_wp2
            go_ret
            exact ⟨by rw [HV.out]; rfl, (Below.refl _ _).alloc (Nat.le_refl _) _⟩
          · go_enter Tryz.func136, Tryz.ntmps136
            go_wp2_with fail
            refine (k0 _).mono ?_
            rintro e w1 ⟨rfl, rfl⟩
            go_wp2_with fail
            refine (k1 _).mono ?_
            rintro e w1 ⟨rfl, rfl⟩
            go_wp2_with fail
            refine (k2 _).mono ?_
            rintro e w1 ⟨rfl, rfl⟩
            go_wp2_with fail
            refine (k3 _).mono ?_
            rintro e w1 ⟨rfl, rfl⟩
            go_wp2_with fail
            refine (k4 _).mono ?_
            rintro e w1 ⟨rfl, rfl⟩
            go_wp2
            go_ret
            exact ⟨by rw [HV.out]; rfl, (Below.refl _ _).alloc (Nat.le_refl _) _⟩
end Go.Proofs.YtajfmjgaaapjeaaGreatDoor
