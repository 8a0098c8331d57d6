/- The iterator over a log's records: whatever the loop's body does, it is handed the records in order, each with the place where it ends, until there is none or the body says no more; and strings.Clone. Conditions: logs of at most 2 to the 40 bytes; the table of sums lies as the program lays it, below the memory that the body may write. -/
import Derived.Test.YtdpjlfgfacjfeaaDoorRa
import Derived.RangeFuncNested
import Derived.RangeFuncBound
import Derived.RangeFuncCalls
import Derived.RangeFuncLeaves
import Derived.RangeFuncBox
import Derived.Shelf.Abstract
import Derived.Shelf.RegionOpen
import Derived.WalkKit
import Derived.OwnWalkIn
import Derived.TacticsInMore
import Derived.LoopNIn
import Derived.LoopIn
import Derived.Maps.AppendAt
import Derived.ScopeJumps
namespace Go.Proofs.YtdpjlfgfacjfeaaDoor
open Go.RowKit Go.Shelf
open Num
set_option linter.unusedVariables false
attribute [local go_sem] Oper.semAt_some
theorem wpIn_scope_wide {n : Nat} {P : Program} {c : Code} {Q : Exit → Act → World → Prop} {a : Act} {w : World}
    (h : c.wpIn Fence.wide n P (Exit.noGoto Q) a w) : (Code.scope c).wpIn Fence.wide n P Q a w := wpIn_wide.2 (wp_scope_straight (wpIn_wide.1 h))
set_option maxHeartbeats 400000 in
set_option maxRecDepth 100000 in
theorem clone_any (s : ByteArray) (w : World) (hs : s.size ≤ 281474976710656) :
    Calls Tryd.prog 21 #[.string s] w fun e w' => e = .returned (.string s) ∧ Below w.heap.size w w' := by
  go_enter Tryd.func21, Tryd.ntmps21
  go_wp2_with fail
  refine (Tryd.stringslite_Clone s _ hs).mono ?_
  rintro e w1 ⟨rfl, b1⟩
  go_wp2
  go_ret
  exact ⟨rfl, b1⟩
/-- A record with the place where it ends. -/
abbrev Rc := { x : ByteArray × Nat // x.1.size ≤ 60 }
def rcOf (t : ByteArray) (e : Nat) : Rc := if h : t.size ≤ 60 then ⟨(t, e), h⟩ else ⟨(⟨#[]⟩, e), Nat.zero_le _⟩
theorem rcOf_yes {t : ByteArray} (e : Nat) (h : t.size ≤ 60) : rcOf t e = ⟨(t, e), h⟩ := by unfold rcOf; rw [dif_pos h]
def recs (ts : List ByteArray) (k : Nat) : List Rc := (List.range k).map fun j => rcOf (ts.getD j ⟨#[]⟩) (atE ts (j + 1))
theorem recs_succ (ts : List ByteArray) {k : Nat} (h : k < ts.length) : recs ts (k + 1) = recs ts k ++ [rcOf ts[k] (atE ts (k + 1))] := by
  unfold recs
  rw [List.range_succ, List.map_append]
  simp [List.getD, h]
theorem recs_length (ts : List ByteArray) (k : Nat) : (recs ts k).length = k := by simp [recs]
def txt (x : Rc) : ByteArray := x.1.1
theorem recs_txt {ts : List ByteArray} (hf : Fits ts) : ∀ k, k ≤ ts.length → (recs ts k).map txt = ts.take k
  | 0, _ => rfl
  | k + 1, h => by
    have hk : k < ts.length := h
    rw [recs_succ ts hk, List.map_append, recs_txt hf k (by omega), List.take_succ_eq_append_getElem hk, List.map_singleton, rcOf_yes _ (hf _ (List.getElem_mem hk))]
    rfl
/-- Where the last one ends. -/
def lastE (pre : List Rc) : Nat := match pre.getLast? with
  | some x => x.1.2
  | none => 0
theorem lastE_snoc (pre : List Rc) (x : Rc) : lastE (pre ++ [x]) = x.1.2 := by unfold lastE; rw [List.getLast?_concat]
theorem lastE_recs {ts : List ByteArray} (hf : Fits ts) : ∀ k, k ≤ ts.length → lastE (recs ts k) = atE ts k
  | 0, _ => rfl
  | k + 1, h => by
    have hk : k < ts.length := h
    rw [recs_succ ts hk, lastE_snoc, rcOf_yes _ (hf _ (List.getElem_mem hk))]
/-- What a round of the loop keeps: what lay below n₀, and the block Bn. -/
def Kq (n₀ Bn : Nat) (W W' : World) : Prop := Below n₀ W W' ∧ W'.heap[Bn]? = W.heap[Bn]?
theorem Kq.trans {n₀ Bn : Nat} {A B C : World} (h : Kq n₀ Bn A B) (k : Kq n₀ Bn B C) : Kq n₀ Bn A C := ⟨h.1.trans k.1, k.2.trans h.2⟩
theorem Kq.of_below {n₀ Bn : Nat} {A B : World} (h : Below A.heap.size A B) (hn : n₀ ≤ A.heap.size) (hb : Bn < A.heap.size) : Kq n₀ Bn A B := ⟨h.mono hn, h.block Bn hb⟩
set_option maxHeartbeats 400000 in
set_option maxRecDepth 100000 in
theorem records_any (s : ByteArray) (w : World) :
    CallsIn Fence.wide 3 Tryd.prog 22 #[.string s] w fun e w' => e = .returned (.func (.func 34) #[] #[.pointer (some ⟨w.heap.size, 0, none⟩)]) ∧ w' = w.alloc (.cells #[.string s] 9) := by
  refine callsIn_wide.2 ?_
  go_enter Tryd.func22, Tryd.ntmps22
  go_wp2
  go_ret
  exact ⟨rfl, rfl⟩
set_option maxRecDepth 100000 in
set_option maxHeartbeats 1600000 in
set_option maxRecDepth 100000 in
theorem iter_any (n : Nat) (hn : 1 ≤ n) (l Bn n₀ : Nat) (s : ByteArray) (ts : List ByteArray) (hs : s.size ≤ 1099511627776) (hH : Holds s.data.toList ts) (J Jx : List Rc → World → Prop)
    (hY : ∀ pre x W, J pre W → pre.length < ts.length → YieldAt Fence.wide (n - 1) Tryd.prog l #[.string x.1.1, .int .i64 (x.1.2 : Int)] W fun e W' =>
      (e = .returned (.bool true) ∧ J (pre ++ [x]) W' ∧ Kq n₀ Bn W W') ∨ (e = .returned (.bool false) ∧ Jx (pre ++ [x]) W'))
    (hJ : ∀ pre W W', J pre W → Below W.heap.size W W' → J pre W')
    (W : World) (hn0 : n₀ ≤ W.heap.size) (hBn : Boxed W Bn 9 (.string s)) (hT : Tab W) (hTn : 0 < n₀) (h0 : J [] W) :
    CallsIn Fence.wide n Tryd.prog 34 #[.func (.yield l) #[] #[], .pointer (some ⟨Bn, 0, none⟩)] W fun e W' => (∃ v, e = .returned v) ∧
      ((∃ ys, ys = recs ts ts.length ∧ J ys W') ∨ (∃ pre, (∃ k, pre = recs ts k) ∧ Jx pre W')) := by
  have HH : Hid (Holds s.data.toList ts) := hH
  clear hH
  refine callsIn_of_wp Tryd.func34 rfl trivial ?_ rfl
  simp only [Tryd.ntmps34, List.size_toArray, List.length_cons, List.length_nil, Nat.reduceAdd, Nat.reduceSub, Array.replicate_succ, Array.replicate_zero, List.push_toArray, List.append_toArray, List.nil_append, List.cons_append]
  gi_wp2
  refine wpIn_scope_wide ?_
  gi_wp2
  refine wpIn_label ?_
  gi_wp2
  gi_loopw [3] (fun av wr => ∃ k : Nat, k ≤ ts.length ∧ av = .int .i64 (atE ts k : Nat) ∧ Hid (J (recs ts k) wr) ∧ Hid (Kq n₀ Bn W wr)) (fun av _ => s.size + 1 - (intOf av).toNat)
  case atStart => exact ⟨0, Nat.zero_le _, rfl, h0, Below.refl _ _, rfl⟩
  case round =>
    obtain ⟨k, hk, rfl, HJ, HB⟩ := hrel
    have hsz : n₀ ≤ wr.heap.size := Nat.le_trans hn0 HB.out.1.size
    have HT : Hid (Tab wr) := fun i hi => by
      have := hT i hi
      rw [HB.out.1.cell (p := ⟨0, i, none⟩) hTn]; exact this
    have hbx : Boxed wr Bn 9 (.string s) := HB.out.2.trans hBn
    have hc := hbx.cell
    have hblt := hbx.lt
    clear hbx
    have hle := HH.out.le k
    rw [len_toList] at hle
    obtain ⟨a, ha⟩ : ∃ a, atE ts k = a := ⟨_, rfl⟩
    have kA := fun W hT => impl_ahead (s.extract a s.size) W (by rw [ByteArray.size_extract]; omega) hT
    rw [drop_ext] at kA
    by_cases hlt : k < ts.length
    · have hr := HH.out.next hlt
      have hsucc := atE_succ hlt
      have hle2 := HH.out.le (k + 1)
      rw [len_toList] at hle2
      have hfit := HH.out.fit hlt
      have hws := rcd_size hfit
      rw [ha] at hr hle hsucc
      rw [ra_some hr] at kA
      obtain ⟨t, ht⟩ : ∃ t, ts[k] = t := ⟨_, rfl⟩
      have HN : Hid (recs ts (k + 1) = recs ts k ++ [rcOf t (atE ts (k + 1))]) := by rw [← ht]; exact recs_succ ts hlt
      rw [ht] at kA hsucc hfit hws
      obtain ⟨z, hz⟩ : ∃ z, (rcd t).size = z := ⟨_, rfl⟩
      obtain ⟨a2, ha2⟩ : ∃ a2, atE ts (k + 1) = a2 := ⟨_, rfl⟩
      rw [hz] at kA hsucc hws
      rw [ha2] at HN hsucc hle2
      simp only at kA
      have HA2 : Hid (atE ts (k + 1) = a2) := ha2
      clear hr ht ha2 hz
      rw [ha]
      have q1 : (a : Int) ≤ (s.size : Int) := by omega
      have q2 : (a : Int) + (z : Int) = (a2 : Int) := by omega
      have q3 : ¬ (z : Int) = 0 := by omega
      have q4 : a < a2 := by omega
      have q5 : ((z : Int) == 0) = false := by rw [beq_eq_false_iff_ne]; exact q3
      rw [rcOf_yes _ hfit] at HN
      clear ha hws hsucc hle
      gi_wp2
      refine ⟨trivial, ?_⟩
      refine (callsIn_wide.2 (kA _ HT.out)).mono ?_
      rintro e w1 ⟨rfl, b1⟩
      have HJ1 : Hid (J (recs ts k) w1) := hJ _ _ _ HJ.out b1
      obtain ⟨fn, tmps, assign, body, hy, hR⟩ := hY (recs ts k) ⟨(t, a2), hfit⟩ w1 HJ1.out (by rw [recs_length]; exact hlt)
      rw [← HN.out] at hR
      have HB1 : Hid (Kq n₀ Bn W w1) := HB.out.trans (Kq.of_below b1 hsz hblt)
      simp only at hy
      gi_wp2
      refine hR.mono ?_
      rintro e w2 (⟨rfl, hJ2, hk2⟩ | ⟨rfl, hJx2⟩)
      · have HB2 : Hid (Kq n₀ Bn W w2) := HB1.out.trans hk2
        gi_wp2
        go_roundw
        case rel => exact ⟨k + 1, hlt, by rw [HA2.out], hJ2, HB2⟩
        case measure => simp [intOf]; omega
      · gi_wp2
        simp only [Exit.noGoto]
        refine bodyPost_ret (results_none rfl _ _ _) rfl ?_
        exact ⟨⟨_, rfl⟩, .inr ⟨_, ⟨k + 1, rfl⟩, hJx2⟩⟩
    · obtain rfl : k = ts.length := by omega
      have hr := HH.out.last
      rw [ha] at hr hle
      rw [ra_none hr] at kA
      simp only at kA
      rw [ha]
      have q1 : (a : Int) ≤ (s.size : Int) := by omega
      clear ha hr hle
      gi_wp2
      refine ⟨trivial, ?_⟩
      refine (callsIn_wide.2 (kA _ HT.out)).mono ?_
      rintro e w1 ⟨rfl, b1⟩
      have HJ1 : Hid (J (recs ts ts.length) w1) := hJ _ _ _ HJ.out b1
      gi_wp2
      simp only [Exit.noGoto]
      gi_wp2
      go_end0
      exact ⟨⟨_, rfl⟩, .inl ⟨_, rfl, HJ1.out⟩⟩
/-- The iterator's contract, for whatever loop. -/
theorem iter_stops (n : Nat) (hn : 1 ≤ n) (Bn n₀ : Nat) (s : ByteArray) (ts : List ByteArray) (hs : s.size ≤ 1099511627776) (hH : Holds s.data.toList ts)
    (w : World) (hn0 : n₀ ≤ w.heap.size) (hBn : Boxed w Bn 9 (.string s)) (hT : Tab w) (hTn : 0 < n₀) :
    SeqStopsK Fence.wide n Tryd.prog 34 #[.pointer (some ⟨Bn, 0, none⟩)] (fun x : Rc => #[.string x.1.1, .int .i64 (x.1.2 : Int)]) (Kq n₀ Bn) (fun ys => ys = recs ts ts.length) (fun pre => ∃ k, pre = recs ts k) ts.length w := fun l J Jx W hW hJ _ hY h0 =>
  iter_any n hn l Bn n₀ s ts hs hH J Jx hY (fun pre A B hs hb => hJ pre A B none hs ⟨hb.os, hb.tape, hb.output, hb.size, fun k hk _ => hb.block k hk⟩ (fun r e => by cases e)) W (Nat.le_trans hn0 hW.size) ((hW.block Bn hBn.lt).trans hBn) (hT.below hW) hTn h0
end Go.Proofs.YtdpjlfgfacjfeaaDoor
