/- What impl.recordAhead answers: the record at the head of a log; old memory stays. Conditions: logs of at most 2 to the 40 bytes; the table of sums lies as the program lays it. -/
import Derived.Test.YtdpjlfgfacjfeaaDoorWr
import Derived.Test.YtdpjlfgfacjfeaaDoorRvi
import Derived.Test.YtdpjlfgfacjfeaaDoorShelf
namespace Go.Proofs.YtdpjlfgfacjfeaaDoor
open Go.RowKit
open Num
set_option linter.unusedVariables false
theorem prefix_yes {s p : ByteArray} (h : p.data.toList <+: s.data.toList) : Lib.hasPrefix s.data.toList p.data.toList = true := by
  unfold Lib.hasPrefix; exact List.isPrefixOf_iff_prefix.2 h
theorem prefix_no {s p : ByteArray} (h : ¬ p.data.toList <+: s.data.toList) : Lib.hasPrefix s.data.toList p.data.toList = false := by
  unfold Lib.hasPrefix
  rw [← Bool.not_eq_true]
  exact fun hh => h (List.isPrefixOf_iff_prefix.1 hh)
theorem nul_of {s : ByteArray} (h : s.size = 0) : s = ⟨#[]⟩ := by
  refine list_inj ?_
  exact List.eq_nil_of_length_eq_zero (by rw [len_toList]; exact h)
set_option maxHeartbeats 1600000 in
set_option maxRecDepth 100000 in
theorem impl_ahead (s : ByteArray) (w : World) (hs : s.size ≤ 1099511627776) (hT : Tab w) :
    Calls Tryd.prog 35 #[.string s] w fun e w' => e = .returned (.tuple #[.string (ra s.data.toList).1, .int .i64 ((ra s.data.toList).2 : Nat)]) ∧ Below w.heap.size w w' := by
  have HT : Hid (Tab w) := hT
  clear hT
  by_cases h4 : s.size < 4
  · have HR : Hid (ra s.data.toList = (⟨#[]⟩, 0)) := ra_short s h4
    have h4z : (s.size : Int) < 4 := by omega
    generalize ra s.data.toList = R at *
    go_enter Tryd.func35, Tryd.ntmps35
    go_wp2
    go_ret2
    exact ⟨by rw [HR.out]; rfl, Below.refl _ _⟩
  obtain ⟨⟨n, m⟩, hv⟩ : ∃ r, rvAt s 4 = r := ⟨_, rfl⟩
  have hb := rvAt_bound s 4
  rw [hv] at hb
  simp only at hb
  obtain ⟨n1, n2, n3, n4, n5⟩ := hb
  clear n4
  have h4z : ¬ (s.size : Int) < 4 := by omega
  have h4y : (4 : Int) ≤ (s.size : Int) := by omega
  have kR := fun W => impl_rv (s.extract 4 s.size) W (by unfold maxLen; rw [ByteArray.size_extract]; omega)
  rw [drop_ext, show rv (s.data.toList.drop 4) = (n, m) from hv] at kR
  simp only at kR
  by_cases hx : (s.size : Int) - (4 + (m : Int)) < n
  · have HR : Hid (ra s.data.toList = (⟨#[]⟩, 0)) := ra_less s hv hx
    clear hv
    generalize ra s.data.toList = R at *
    go_enter Tryd.func35, Tryd.ntmps35
    go_wp2_with fail
    refine (kR _).mono ?_
    rintro e w1 ⟨rfl, rfl⟩
    go_wp2
    go_ret2
    exact ⟨by rw [HR.out]; rfl, Below.refl _ _⟩
  · obtain ⟨N, rfl⟩ : ∃ N : Nat, n = (N : Int) := ⟨n.toNat, by omega⟩
    obtain ⟨t, ht⟩ : ∃ t, s.extract (4 + m) (4 + m + N) = t := ⟨_, rfl⟩
    have HR : Hid (ra s.data.toList = if (rcd t).size = 0 ∨ ¬ (rcd t).data.toList <+: s.data.toList then (⟨#[]⟩, 0) else (t, (rcd t).size)) := ra_cut s hv (by omega) t (by rw [← ht]; rfl)
    have hts : t.size ≤ 1099511627776 := by rw [← ht, ByteArray.size_extract]; omega
    have kW := fun W hT => impl_wr t W hts hT
    have hws := rcd_le t
    have HPy : Hid ((rcd t).data.toList <+: s.data.toList → Lib.hasPrefix s.data.toList (rcd t).data.toList = true) := prefix_yes
    have HPn : Hid (¬ (rcd t).data.toList <+: s.data.toList → Lib.hasPrefix s.data.toList (rcd t).data.toList = false) := prefix_no
    have kP := fun W => Tryd.strings_HasPrefix s (rcd t) W
    have q1 : 4 + (m : Int) ≤ (s.size : Int) := by omega
    have q2 : 4 + (m : Int) ≤ 4 + (m : Int) + (N : Int) := by omega
    have q3 : 4 + (m : Int) + (N : Int) ≤ (s.size : Int) := by omega
    have hsl : ∀ W, (Instr.slice 9 (.string s) (some (.int .i64 (4 + (m : Int)))) (some (.int .i64 (4 + (m : Int) + (N : Int)))) none).run Tryd.prog W = .ok (.string t) W := fun W => by
      rw [run_slice_string W 9 s .i64 .i64 (4 + (m : Int)) (4 + (m : Int) + (N : Int)) Tryd.underlying9 (by omega) q2 q3, show (4 + (m : Int)).toNat = 4 + m from by omega, show (4 + (m : Int) + (N : Int)).toNat = 4 + m + N from by omega, ht]
    generalize ra s.data.toList = R at *
    generalize rcd t = q at *
    go_enter Tryd.func35, Tryd.ntmps35
    go_wp2_with fail
    refine (kR _).mono ?_
    rintro e w1 ⟨rfl, rfl⟩
    go_wp2_with fail
    refine (kW _ HT.out).mono ?_
    rintro e w2 ⟨rfl, b2⟩
    by_cases hz : q.size = 0
    · obtain rfl := nul_of hz
      have HR : Hid (R = (⟨#[]⟩, 0)) := by have h := HR.out; rw [if_pos (.inl hz)] at h; exact h
      go_wp2
      go_ret2
      exact ⟨by rw [HR.out]; rfl, b2⟩
    · have he : (q.toList == ([] : List UInt8)) = false := by
        rw [beq_eq_false_iff_ne]
        intro h
        rw [Go.ByteArray.toList_eq] at h
        exact hz (by rw [← len_toList, h]; rfl)
      have hq0 : ¬ q = ⟨#[]⟩ := fun h => hz (by rw [h]; rfl)
      by_cases hp : q.data.toList <+: s.data.toList
      · have HR : Hid (R = (t, q.size)) := by have h := HR.out; rw [if_neg (fun h => h.elim hz (fun h => h hp))] at h; exact h
        rw [HPy.out hp] at kP
        go_wp2_with fail
        refine (kP _).mono ?_
        rintro e w3 ⟨rfl, rfl⟩
        go_wp2
        go_ret2
        exact ⟨by rw [HR.out]; rfl, b2⟩
      · have HR : Hid (R = (⟨#[]⟩, 0)) := by have h := HR.out; rw [if_pos (.inr hp)] at h; exact h
        rw [HPn.out hp] at kP
        go_wp2_with fail
        refine (kP _).mono ?_
        rintro e w3 ⟨rfl, rfl⟩
        go_wp2
        go_ret2
        exact ⟨by rw [HR.out]; rfl, b2⟩
end Go.Proofs.YtdpjlfgfacjfeaaDoor
