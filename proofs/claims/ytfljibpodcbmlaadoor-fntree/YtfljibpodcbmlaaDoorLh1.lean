/- What the laws' helpers for rows of texts answer: szStringS, toStringS, eqStringS. Conditions: texts that lie where the slices say. -/
import Derived.Test.YtfljibpodcbmlaaDoorMk4
import Derived.Deep.QuietTactic
import Derived.BigQuiet
namespace Go.Proofs.YtfljibpodcbmlaaDoor
open Go.RowKit
open Num
set_option linter.unusedVariables false
def total : List ByteArray → Nat
  | [] => 0
  | x :: l => x.size + total l
theorem total_append : ∀ (l m : List ByteArray), total (l ++ m) = total l + total m
  | [], m => by simp [total]
  | x :: l, m => by simp [total, total_append l m]; omega
theorem total_take (l : List ByteArray) (k : Nat) : total (l.take k) ≤ total l := by
  have := total_append (l.take k) (l.drop k)
  rw [List.take_append_drop] at this; omega
theorem total_succ (l : List ByteArray) (k : Nat) (h : k < l.length) : total (l.take (k + 1)) = total (l.take k) + l[k].size := by
  rw [List.take_add_one, List.getElem?_eq_getElem h, total_append]
  simp [total]
theorem mem_total {l : List ByteArray} {x : ByteArray} (h : x ∈ l) : x.size ≤ total l := by
  induction l with
  | nil => cases h
  | cons y l ih =>
    rcases List.mem_cons.1 h with rfl | h
    · simp [total]
    · have := ih h; simp [total]; omega
/-- What is left behind a row of texts. -/
def szV (ss : List ByteArray) (left : Int) : Int := if (ss.length : Int) + (total ss : Int) ≤ left then left - ss.length - total ss else -1
theorem StrO.get {w : World} {a : Option Addr} {ss : List ByteArray} (h : StrO w a ss) {j : Nat} (hj : j < ss.length) : ∃ b o, a = some ⟨b, o, none⟩ ∧ w.cell? ⟨b, o + j, none⟩ = some (.string ss[j]) := by
  rcases h with h | ⟨b, o, h1, h2⟩
  · omega
  · exact ⟨b, o, h1, h2 j hj⟩
set_option maxHeartbeats 800000 in
theorem sz_any (a : Option Addr) (cap : Nat) (ss : List ByteArray) (left : Int) (w : World) (hA : StrO w a ss) (hl0 : -1 ≤ left) (hl1 : left ≤ 1048576) (hm : ss.length ≤ 140737488355328) (hs : ∀ s ∈ ss, s.size ≤ 140737488355328) :
    Calls Tryd.prog 21 #[.slice a ss.length cap, .int .i64 left] w fun e w' => e = .returned (.int .i64 (szV ss left)) ∧ w' = w := by
  have HA : Hid (StrO w a ss) := hA
  have HS : Hid (∀ s ∈ ss, s.size ≤ 140737488355328) := hs
  clear hA hs
  by_cases hfit : (ss.length : Int) ≤ left
  · have hf : ¬ left - (ss.length : Int) < 0 := by omega
    go_enter Tryd.func21, Tryd.ntmps21
    go_wp2
    go_loop [1, 5] (fun l i => ∃ k : Nat, k ≤ ss.length ∧ i = .int .i64 k ∧ l = .int .i64 (left - ss.length - (total (ss.take k) : Nat)) ∧ (0 : Int) ≤ left - ss.length - (total (ss.take k) : Nat)) (fun _ i => ss.length - (intOf i).toNat)
    case atStart => exact ⟨0, by omega, rfl, by simp [total], by simp [total]; omega⟩
    case round =>
      obtain ⟨k, hk, rfl, rfl, hpos⟩ := hrel
      by_cases hlt : k < ss.length
      · obtain ⟨b, o, rfl, hc⟩ := HA.out.get hlt
        have ht := total_succ ss k hlt
        have hsz := HS.out _ (List.getElem_mem hlt)
        have htt := total_take ss (k + 1)
        have HV : Hid (szV ss left = _) := rfl
        generalize ss[k] = x at *
        have hlt' : (k : Int) < (ss.length : Int) := by omega
        obtain ⟨T, hT⟩ : ∃ T, total (ss.take k) = T := ⟨_, rfl⟩
        obtain ⟨U, hU⟩ : ∃ U, total (ss.take (k + 1)) = U := ⟨_, rfl⟩
        have HU : Hid (total (ss.take (k + 1)) = U) := hU
        have HTT : Hid (U ≤ total ss) := by show _ ≤ _; rw [← hU]; exact htt
        rw [hT, hU] at ht
        rw [hU] at htt
        rw [hT] at hpos ⊢
        clear hT hU
        by_cases hneg : left - (ss.length : Int) - (T : Int) - (x.size : Int) < 0
        · have HZ : Hid (szV ss left = -1) := by
            show _ = _
            unfold szV
            rw [if_neg (by have := HTT.out; omega)]
          clear htt ht
          go_wp2
          go_ret
          exact ⟨by rw [HZ.out]; rfl, rfl⟩
        · clear htt
          go_wp2
          go_round
          case rel =>
            refine ⟨k + 1, by omega, by go_num, ?_, ?_⟩
            · rw [HU.out, ht]; go_num
            · rw [HU.out, ht]; push_cast; omega
          case measure => simp [intOf]; omega
      · obtain rfl : k = ss.length := by omega
        have HZ : Hid (szV ss left = left - ss.length - (total (ss.take ss.length) : Nat)) := by
          show _ = _
          rw [List.take_of_length_le (Nat.le_refl _)] at hpos ⊢
          unfold szV
          rw [if_pos (by omega)]
        generalize total (ss.take ss.length) = T at *
        go_wp2
        go_ret
        exact ⟨by rw [HZ.out]; rfl, rfl⟩
  · have hf : left - (ss.length : Int) < 0 := by omega
    have HZ : Hid (szV ss left = -1) := by
      show _ = _
      unfold szV
      rw [if_neg (by omega)]
    go_enter Tryd.func21, Tryd.ntmps21
    go_wp2
    go_ret
    exact ⟨by rw [HZ.out]; rfl, rfl⟩
def emp : ByteArray := ⟨#[]⟩
theorem made_emp (m : Nat) : (madeCells (Value.string ⟨#[]⟩).cells (m * 1)).toList = (List.replicate m emp).map sv := by
  have : (Value.string ⟨#[]⟩).cells = #[.string ⟨#[]⟩] := rfl
  rw [this, toList_madeCells_one, Nat.mul_one, List.map_replicate]; rfl
def partS (ss : List ByteArray) (k : Nat) : List ByteArray := ss.take k ++ List.replicate (ss.length - k) emp
theorem partS_set (ss : List ByteArray) (k : Nat) (h : k < ss.length) : ((partS ss k).map sv).set k (sv ss[k]) = (partS ss (k + 1)).map sv := by
  unfold partS
  have hl : (ss.take k).length = k := by simp; omega
  rw [← List.map_set, List.set_append_right _ _ (by omega), hl, Nat.sub_self, show ss.length - k = (ss.length - (k + 1)) + 1 from by omega, List.replicate_succ, List.take_add_one, List.getElem?_eq_getElem h, List.set_cons_zero]
  show List.map sv (ss.take k ++ (ss[k] :: _)) = List.map sv (ss.take k ++ [ss[k]] ++ _)
  rw [List.append_assoc]; rfl
theorem partS_full (ss : List ByteArray) : partS ss ss.length = ss := by
  unfold partS; rw [List.take_of_length_le (Nat.le_refl _), Nat.sub_self]; simp
theorem length_partS (ss : List ByteArray) (k : Nat) (h : k ≤ ss.length) : (partS ss k).length = ss.length := by
  unfold partS; simp; omega
set_option maxHeartbeats 800000 in
theorem to_any (a : Option Addr) (cap : Nat) (ss : List ByteArray) (w : World) (hA : StrO w a ss) (hm : ss.length ≤ 1048576) :
    Calls Tryd.prog 22 #[.slice a ss.length cap] w fun e w' => e = .returned (.slice (some ⟨w.heap.size, 0, none⟩) ss.length ss.length) ∧ OwnS w' w.heap.size w.heap.size ss.length ss ∧ Below w.heap.size w w' := by
  obtain ⟨i0, hi, hz0, hz1, hz2⟩ := info9f
  have HA : Hid (StrO w a ss) := hA
  clear hA
  go_enter Tryd.func22, Tryd.ntmps22
  go_wp2_with (at_make; refine wpList_make_full _ rfl _ _ 24 rfl w.heap.size 9 i0 (.string ⟨#[]⟩) 1 Tryd.underlying24 hi hz0 hz1 _ _ _ _ ss.length rfl rfl rfl rfl (by rw [hz2]; omega) (by unfold maxLen; omega) (Nat.le_refl _) ?_; intro w1 hown hgr)
  have HR : Hid (w1.ownsRow w.heap.size 9 1 (.slice (some ⟨w.heap.size, 0, none⟩) ss.length ss.length) ss.length ((partS ss 0).map sv)) := by
    rw [made_emp] at hown; exact hown
  have hb1 := below_of_grown hgr
  clear hown hgr
  go_loopw [4] (fun i wr => ∃ k : Nat, k ≤ ss.length ∧ i = .int .i64 k ∧ Hid (wr.ownsRow w.heap.size 9 1 (.slice (some ⟨w.heap.size, 0, none⟩) ss.length ss.length) ss.length ((partS ss k).map sv)) ∧ Below w.heap.size w wr) (fun i _ => ss.length - (intOf i).toNat)
  case atStart => exact ⟨0, by omega, rfl, HR, hb1⟩
  case round =>
    clear HR hb1 w1
    obtain ⟨k, hk, rfl, HR, hb⟩ := hrel
    by_cases hlt : k < ss.length
    · obtain ⟨b, o, rfl, hc0⟩ := HA.out.get hlt
      have hc : wr.cell? ⟨b, o + k, none⟩ = some (.string ss[k]) := by
        rw [hb.cell (p := ⟨b, o + k, none⟩) (World.block_lt_of_cell? w _ hc0)]; exact hc0
      have hlp := length_partS ss k hk
      have hc2 : ∃ u, wr.cell? ⟨w.heap.size, k, none⟩ = some u := by
        rw [HR.out.cellAt k (by omega)]
        exact ⟨_, List.getElem?_eq_getElem (by simp; omega)⟩
      obtain ⟨u, hc2⟩ := hc2
      have hf : wr.frozen? ⟨w.heap.size, k, none⟩ = false := HR.out.frozenAt k
      have HST : Hid (_) := (HR.out.stored k (sv ss[k])).1
      rw [partS_set ss k hlt] at HST
      have hlt' : (k : Int) < (ss.length : Int) := by omega
      have hb2 := hb.setCell (p := ⟨w.heap.size, k, none⟩) (Nat.le_refl _) (sv ss[k])
      clear hc0 hlp
      go_wp2
      go_roundw
      case rel => exact ⟨k + 1, by omega, by go_num, HST, hb2⟩
      case measure => simp [intOf]; omega
    · obtain rfl : k = ss.length := by omega
      have HF : Hid (OwnS wr w.heap.size w.heap.size ss.length ss) := by
        have := HR.out
        rw [partS_full] at this; exact this
      go_wp2
      go_ret
      exact ⟨rfl, HF.out, hb⟩
set_option maxHeartbeats 800000 in
theorem eq_same (a a2 : Option Addr) (cap cap2 : Nat) (ss : List ByteArray) (w : World) (hA : StrO w a ss) (hA2 : StrO w a2 ss) (hm : ss.length ≤ 140737488355328) :
    Calls Tryd.prog 23 #[.slice a ss.length cap, .slice a2 ss.length cap2] w fun e w' => e = .returned (.bool true) ∧ ∃ q, w' = w.drewN q := by
  have HA : Hid (StrO w a ss) := hA
  have HA2 : Hid (StrO w a2 ss) := hA2
  clear hA hA2
  have hnn : ((ss.length : Int) != (ss.length : Int)) = false := by simp
  go_enter Tryd.func23, Tryd.ntmps23
  go_wp2
  go_loopw [5] (fun i wr => ∃ k q : Nat, k ≤ ss.length ∧ i = .int .i64 k ∧ wr = w.drewN q) (fun i _ => ss.length - (intOf i).toNat)
  case atStart => exact ⟨0, 0, by omega, rfl, rfl⟩
  case round =>
    obtain ⟨k, q, hk, rfl, rfl⟩ := hrel
    by_cases hlt : k < ss.length
    · obtain ⟨b, o, rfl, hc⟩ := HA.out.get hlt
      obtain ⟨b2, o2, rfl, hc2⟩ := HA2.out.get hlt
      generalize ss[k] = x at *
      have hxx : (x.toList != x.toList) = false := by simp
      have hlt' : (k : Int) < (ss.length : Int) := by omega
      go_wp2
      go_quiet (fail)
      go_wp2
      go_roundw
      case rel => exact ⟨k + 1, q + nq, by omega, by go_num, rfl⟩
      case measure => simp [intOf]; omega
    · obtain rfl : k = ss.length := by omega
      go_wp2
      go_ret
      exact ⟨rfl, q, rfl⟩
end Go.Proofs.YtfljibpodcbmlaaDoor
