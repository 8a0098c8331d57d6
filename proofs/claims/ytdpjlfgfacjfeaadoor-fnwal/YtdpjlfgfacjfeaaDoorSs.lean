/- What spec.WalScan and spec.WalTrim answer: the records of a log, and where they end; the answer owns its memory, old memory stays. Conditions: logs of at most 2 to the 40 bytes that hold at most 2 to the 30 records. -/
import Derived.Test.YtdpjlfgfacjfeaaDoorTk2
import Derived.Test.YtdpjlfgfacjfeaaDoorWr
import Derived.Test.YtdpjlfgfacjfeaaDoorSr
import Derived.Test.YtdpjlfgfacjfeaaDoorRa
namespace Go.Proofs.YtdpjlfgfacjfeaaDoor
open Go.RowKit
open Num
set_option linter.unusedVariables false
theorem take_snoc_t {ts : List ByteArray} {k : Nat} (h : k < ts.length) : ts.take (k + 1) = ts.take k ++ [ts[k]] := List.take_succ_eq_append_getElem h
set_option maxHeartbeats 3200000 in
set_option maxRecDepth 100000 in
theorem spec_scan (s : ByteArray) (ts : List ByteArray) (w : World) (hs : s.size ≤ 1099511627776) (hl : ts.length ≤ 1073741824) (hH : Holds s.data.toList ts) :
    Calls Tryd.prog 14 #[.string s] w fun e w' => ∃ v, e = .returned (.tuple #[v, .int .i64 ((cat ts).length : Nat)]) ∧ OwnT w' w.heap.size v ts ∧ Below w.heap.size w w' := by
  obtain ⟨i0, hi, hz0, hz1, hz2⟩ := info9f
  have HH : Hid (Holds s.data.toList ts) := hH
  clear hH
  go_enter Tryd.func14, Tryd.ntmps14
  go_wp2
  go_loopw [4, 5] (fun ov av wr => ∃ (k : Nat) (q : Value), k ≤ ts.length ∧ q = ov ∧ av = .int .i64 (atE ts k : Nat) ∧ Hid (OwnT wr w.heap.size q (ts.take k)) ∧ Hid (Below w.heap.size w wr)) (fun _ av _ => s.size + 1 - (intOf av).toNat)
  case atStart => exact ⟨0, _, Nat.zero_le _, rfl, rfl, World.ownsRow_made w #[] 0 (Nat.le_refl _) (by decide) rfl, (Below.refl _ _).alloc (Nat.le_refl _) _⟩
  case round =>
    obtain ⟨k, q, hk, rfl, rfl, HO, HB⟩ := hrel
    have hsz := HB.out.size
    have hle := HH.out.le k
    rw [len_toList] at hle
    obtain ⟨a, ha⟩ : ∃ a, atE ts k = a := ⟨_, rfl⟩
    have kT := fun W => spec_take_at s (a + 4) W hs
    rw [show ((a + 4 : Nat) : Int) = (a : Int) + 4 from by omega] at kT
    by_cases hlt : k < ts.length
    · have hr := HH.out.next hlt
      have hsucc := atE_succ hlt
      have hle2 := HH.out.le (k + 1)
      rw [len_toList] at hle2
      obtain ⟨t, ht⟩ : ∃ t, ts[k] = t := ⟨_, rfl⟩
      have HN : Hid (ts.take (k + 1) = ts.take k ++ [t]) := by rw [← ht]; exact take_snoc_t hlt
      rw [ht] at hr hsucc
      rw [ha] at hr hsucc hle
      obtain ⟨e1, e2, e3, e4⟩ := step_some hr
      obtain ⟨a2, ha2⟩ : ∃ a2, atE ts (k + 1) = a2 := ⟨_, rfl⟩
      rw [ha2] at hsucc hle2
      rw [← hsucc] at e1 e2 e4
      rw [show ((a + 4 : Nat) : Int) = (a : Int) + 4 from by omega] at e1
      rw [e1] at kT
      simp only at kT
      have hws := rcd_size e3
      have kW := fun W => spec_wr t W (by omega)
      have HA2 : Hid (atE ts (k + 1) = a2) := ha2
      have q1 : (a : Int) ≤ (a2 : Int) := by omega
      have q2 : (a2 : Int) ≤ (s.size : Int) := by omega
      have q3 : ¬ (a2 : Int) < 0 := by omega
      have q4 : a < a2 := by omega
      have hsl : ∀ W, (Instr.slice 9 (.string s) (some (.int .i64 (a : Int))) (some (.int .i64 (a2 : Int))) none).run Tryd.prog W = .ok (.string (rcd t)) W := fun W => by
        rw [run_slice_string W 9 s .i64 .i64 (a : Int) (a2 : Int) Tryd.underlying9 (by omega) q1 q2, Int.toNat_natCast, Int.toNat_natCast, e2]
      have he : ((rcd t).toList == ([] : List UInt8)) = false := by
        rw [beq_eq_false_iff_ne]
        intro h
        rw [Go.ByteArray.toList_eq] at h
        have : (rcd t).size = 0 := by rw [← len_toList, h]; rfl
        omega
      have hq0 : ¬ rcd t = ⟨#[]⟩ := fun h => by rw [h] at hws; have : (⟨#[]⟩ : ByteArray).size = 0 := rfl; omega
      have hxx : ((rcd t).toList != (rcd t).toList) = false := by simp
      have hln : (ts.take k).length = k := by rw [List.length_take]; omega
      generalize rcd t = R at *
      generalize ts.take k = L at *
      have hne := bel_some wr
      rw [ha]
      clear ha ht hr hsucc e1 e2 e4 ha2 hws hle
      go_wp2_with fail
      refine (kT _).mono ?_
      rintro e w1 ⟨rfl, b1⟩
      have hne1 := bel_some w1
      have HB1 : Hid (Below w.heap.size w w1) := HB.out.trans (b1.mono hsz)
      have HO1 : Hid (OwnT w1 w.heap.size q L) := own_keep HO.out b1
      have hd : decide ((a2 : Int) < 0) = false := decide_eq_false (by omega)
      clear hne
      go_wp2_with fail
      refine wp_region_below (by kernel_rfl) (by kernel_rfl) ?_
      repeat (go_big_quiet_step ((go_at_call 16; exact bel_of (kW _))))
      refine wpQuiet_nil ?_
      intro _ hw'
      obtain ⟨pq, hw''⟩ := hw'
      subst hw''
      have HB2 : Hid (Below w.heap.size w pq.W) := HB1.out.trans (pq.h.mono HB1.out.size)
      have HO2 : Hid (OwnT pq.W w.heap.size q L) := own_keep HO1.out pq.h
      generalize pq.W = w2 at *
      have HO3 : Hid (OwnT (w2.alloc (.cells #[.string t] 9)) w.heap.size q L) := World.ownsRow.alloc HO2.out _
      have HC : Hid (_) := one_str w2 t
      have hsz2 : w.heap.size ≤ w2.heap.size := HB2.out.size
      go_wp2_with (at_builtin; refine wpList_append_own _ rfl _ _ 24 rfl w.heap.size 9 i0 (.string ⟨#[]⟩) 1 16 Tryd.underlying24 hi hz0 hz1 hz2 rfl (by decide) _ _ _ rfl HO3.out ⟨w2.heap.size, 0, none⟩ 1 1 ([t].map sv) rfl rfl HC.out (sv_one [t]) (by unfold maxLen; omega) (by omega) (by simp; omega) ?_)
      intro v' w3 hown' hgrow _
      have HO4 : Hid (OwnT w3 w.heap.size v' (ts.take (k + 1))) := by
        show OwnT _ _ _ _
        rw [HN.out]
        have h := hown'
        rw [← hln] at h
        exact own_snt h
      have hb4 : Hid (Below w.heap.size w w3) := (HB2.out.alloc hsz2 (.cells #[.string t] 9)).grown hgrow (by simp; omega) (fun j hj => (HO2.out.lt j hj).1)
      clear hgrow hown' HC HO1 HO HO2 HO3
      go_wp2
      go_roundw
      case rel =>
        have R : ∃ (k' : Nat) (q : Value), k' ≤ ts.length ∧ q = v' ∧ Value.int .i64 (a2 : Int) = .int .i64 (atE ts k' : Nat) ∧ Hid (OwnT w3 w.heap.size q (ts.take k')) ∧ Hid (Below w.heap.size w w3) := ⟨k + 1, v', hlt, rfl, by rw [HA2.out], HO4, hb4⟩
        first | exact R | ((repeat apply Exists.intro); exact ⟨R, rfl⟩)
      case measure => simp [intOf]; omega
    · obtain rfl : k = ts.length := by omega
      have hr := HH.out.last
      rw [ha] at hr hle
      have HF : Hid (((cat ts).length : Nat) = a) := by rw [← atE_full]; exact ha
      have HOF : Hid (OwnT wr w.heap.size q ts) := by
        have h := HO.out
        rw [List.take_length] at h; exact h
      clear HO
      have hge := tk_ge s (a + 4)
      have hts := (tk_bound s ((a + 4 : Nat) : Int)).2
      rw [show ((a + 4 : Nat) : Int) = (a : Int) + 4 from by omega] at hge hts
      obtain ⟨⟨t, e⟩, hte⟩ : ∃ r, tk s ((a : Int) + 4) = r := ⟨_, rfl⟩
      rw [hte] at hge kT hts
      simp only at hge kT hts
      have hNo : ∀ E : Nat, rcd t = s.extract a E → (rcd t).size = 0 := fun E h => step_none hr h
      have kW := fun W => spec_wr t W (by omega)
      rw [ha]
      clear ha hr hte
      have hne := bel_some wr
      rcases hge with rfl | ⟨g1, g2⟩
      · have hd : decide ((-1 : Int) < 0) = true := by decide
        go_wp2_with fail
        refine (kT _).mono ?_
        rintro e w1 ⟨rfl, b1⟩
        have hne1 := bel_some w1
        have HB1 : Hid (Below w.heap.size w w1) := HB.out.trans (b1.mono hsz)
        have HO1 : Hid (OwnT w1 w.heap.size q ts) := own_keep HOF.out b1
        clear hne
        go_wp2_with fail
        refine wp_region_below (by kernel_rfl) (by kernel_rfl) ?_
        repeat (go_big_quiet_step ((go_at_call 16; exact bel_of (kW _))))
        refine wpQuiet_nil ?_
        intro _ hw'
        obtain ⟨pq, hw''⟩ := hw'
        subst hw''
        have HB2 : Hid (Below w.heap.size w pq.W) := HB1.out.trans (pq.h.mono HB1.out.size)
        have HO2 : Hid (OwnT pq.W w.heap.size q ts) := own_keep HO1.out pq.h
        go_wp2
        go_ret2
        exact ⟨_, by rw [HF.out]; rfl, HO2.out, HB2.out⟩
      · obtain ⟨E, rfl⟩ : ∃ E : Nat, e = (E : Int) := ⟨e.toNat, by omega⟩
        have hNo := hNo E
        have hd : decide ((E : Int) < 0) = false := decide_eq_false (by omega)
        have q1 : (a : Int) ≤ (E : Int) := by omega
        have q0 : ¬ (E : Int) < 0 := by omega
        generalize hR : rcd t = R at *
        have hsl : ∀ W, (Instr.slice 9 (.string s) (some (.int .i64 (a : Int))) (some (.int .i64 (E : Int))) none).run Tryd.prog W = .ok (.string (s.extract a E)) W := fun W => by
          rw [run_slice_string W 9 s .i64 .i64 (a : Int) (E : Int) Tryd.underlying9 (by omega) q1 g2, Int.toNat_natCast, Int.toNat_natCast]
        by_cases hz : R.size = 0
        · obtain rfl := nul_of hz
          clear hNo hR hz
          go_wp2_with fail
          refine (kT _).mono ?_
          rintro e w1 ⟨rfl, b1⟩
          have hne1 := bel_some w1
          have HB1 : Hid (Below w.heap.size w w1) := HB.out.trans (b1.mono hsz)
          have HO1 : Hid (OwnT w1 w.heap.size q ts) := own_keep HOF.out b1
          clear hne
          go_wp2_with fail
          refine wp_region_below (by kernel_rfl) (by kernel_rfl) ?_
          repeat (go_big_quiet_step ((go_at_call 16; exact bel_of (kW _))))
          refine wpQuiet_nil ?_
          intro _ hw'
          obtain ⟨pq, hw''⟩ := hw'
          subst hw''
          have HB2 : Hid (Below w.heap.size w pq.W) := HB1.out.trans (pq.h.mono HB1.out.size)
          have HO2 : Hid (OwnT pq.W w.heap.size q ts) := own_keep HO1.out pq.h
          go_wp2
          go_ret2
          exact ⟨_, by rw [HF.out]; rfl, HO2.out, HB2.out⟩
        · have he : (R.toList == ([] : List UInt8)) = false := by
            rw [beq_eq_false_iff_ne]
            intro h
            rw [Go.ByteArray.toList_eq] at h
            exact hz (by rw [← len_toList, h]; rfl)
          have hq0 : ¬ R = ⟨#[]⟩ := fun h => hz (by rw [h]; rfl)
          have hnx : ¬ R = s.extract a E := fun h => hz (hNo h)
          generalize s.extract a E = X at *
          have hxx : (R.toList != X.toList) = true := by
            rw [bne_iff_ne]
            intro h
            rw [Go.ByteArray.toList_eq, Go.ByteArray.toList_eq] at h
            exact hnx (list_inj h)
          have hxe : (R.toList == X.toList) = false := by
            rw [beq_eq_false_iff_ne]
            intro h
            rw [h] at hxx
            simp at hxx
          clear hNo hR hz
          go_wp2_with fail
          refine (kT _).mono ?_
          rintro e w1 ⟨rfl, b1⟩
          have hne1 := bel_some w1
          have HB1 : Hid (Below w.heap.size w w1) := HB.out.trans (b1.mono hsz)
          have HO1 : Hid (OwnT w1 w.heap.size q ts) := own_keep HOF.out b1
          clear hne
          go_wp2_with fail
          refine wp_region_below (by kernel_rfl) (by kernel_rfl) ?_
          repeat (go_big_quiet_step ((go_at_call 16; exact bel_of (kW _))))
          refine wpQuiet_nil ?_
          intro _ hw'
          obtain ⟨pq, hw''⟩ := hw'
          subst hw''
          have HB2 : Hid (Below w.heap.size w pq.W) := HB1.out.trans (pq.h.mono HB1.out.size)
          have HO2 : Hid (OwnT pq.W w.heap.size q ts) := own_keep HO1.out pq.h
          go_wp2
          go_ret2
          exact ⟨_, by rw [HF.out]; rfl, HO2.out, HB2.out⟩
set_option maxHeartbeats 800000 in
set_option maxRecDepth 100000 in
theorem spec_trim (s : ByteArray) (ts : List ByteArray) (w : World) (hs : s.size ≤ 1099511627776) (hl : ts.length ≤ 1073741824) (hH : Holds s.data.toList ts) :
    Calls Tryd.prog 20 #[.string s] w fun e w' => e = .returned (.string (s.extract 0 (cat ts).length)) ∧ Below w.heap.size w w' := by
  have kS := fun W => spec_scan s ts W hs hl hH
  have hle := hH.le ts.length
  rw [atE_full, len_toList] at hle
  generalize (cat ts).length = n at *
  have hn : (n : Int) ≤ (s.size : Int) := by omega
  clear hH
  go_enter Tryd.func20, Tryd.ntmps20
  go_wp2_with fail
  refine (kS _).mono ?_
  rintro e w1 ⟨v, rfl, _, b1⟩
  go_wp2
  go_ret
  exact ⟨rfl, b1⟩
end Go.Proofs.YtdpjlfgfacjfeaaDoor
