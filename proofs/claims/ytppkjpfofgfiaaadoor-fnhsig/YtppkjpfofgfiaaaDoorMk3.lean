/- What spec.l4Up, PathRoot and Includes answer; old memory stays. Conditions: texts of at most 10995116270 bytes. -/
import Derived.Test.YtppkjpfofgfiaaaDoorMk2
namespace Go.Proofs.YtppkjpfofgfiaaaDoor
open Go.RowKit
open Num
set_option linter.unusedVariables false
/-- Texts that lie where a slice says, if there are any. -/
def StrO (w : World) (a : Option Addr) (ss : List ByteArray) : Prop := ss.length = 0 ∨ ∃ b o, a = some ⟨b, o, none⟩ ∧ StrAt w b o ss
theorem StrO.below {w w' : World} {a : Option Addr} {ss : List ByteArray} (h : StrO w a ss) (hb : Below w.heap.size w w') : StrO w' a ss := by
  rcases h with h | ⟨b, o, h1, h2⟩
  · exact .inl h
  · exact .inr ⟨b, o, h1, h2.below hb⟩
theorem StrAt.take {w : World} {b o : Nat} {ss : List ByteArray} (h : StrAt w b o ss) (n : Nat) : StrAt w b o (ss.take n) := by
  have := h.win 0 n
  rw [Nat.add_zero, List.drop_zero] at this; exact this
theorem up_size (leaf : ByteArray) (hl : leaf.size ≤ 10995116270) : ∀ (f i n : Nat) (p : List ByteArray), (upF f leaf i n p).1.size ≤ 10995116270
  | 0, i, n, p => by show (⟨#[]⟩ : ByteArray).size ≤ _; decide
  | f + 1, i, n, p => by
    unfold upF
    split
    · exact hl
    · split
      · decide
      · split <;> (show (nodeH _ _).size ≤ _; rw [size_nodeH]; decide)
set_option maxHeartbeats 1600000 in
set_option maxRecDepth 100000 in
theorem spec_up (leaf : ByteArray) (hlf : leaf.size ≤ 10995116270) : ∀ (f i n cap : Nat) (a : Option Addr) (p : List ByteArray) (w : World), 1 ≤ n → n ≤ f → n ≤ 1048576 → i ≤ 1048576 → p.length ≤ cap → cap ≤ 9223372036854775807 → StrO w a p → (∀ s ∈ p, s.size ≤ 10995116270) →
    Calls Tryd.prog 73 #[.string leaf, .int .i64 (i : Int), .int .i64 (n : Int), .slice a p.length cap] w fun e w' => e = .returned (.tuple #[.string (upL leaf i n p).1, .bool (upL leaf i n p).2]) ∧ Below w.heap.size w w' := by
  intro f
  induction f with
  | zero => intro i n cap a p w h1 h2; omega
  | succ f ih =>
    intro i n cap a p w h1 h2 h3 h4 h5 h6 hA hS
    have HA : Hid (StrO w a p) := hA
    have HSS : Hid (∀ s ∈ p, s.size ≤ 10995116270) := hS
    have HIH : Hid (∀ (i n cap : Nat) (a : Option Addr) (p : List ByteArray) (w : World), 1 ≤ n → n ≤ f → n ≤ 1048576 → i ≤ 1048576 → p.length ≤ cap → cap ≤ 9223372036854775807 → StrO w a p → (∀ s ∈ p, s.size ≤ 10995116270) →
      Calls Tryd.prog 73 #[.string leaf, .int .i64 (i : Int), .int .i64 (n : Int), .slice a p.length cap] w fun e w' => e = .returned (.tuple #[.string (upL leaf i n p).1, .bool (upL leaf i n p).2]) ∧ Below w.heap.size w w') := ih
    clear hA hS ih
    by_cases hone : n = 1
    · subst hone
      have HU : Hid (upL leaf i 1 p = (leaf, p.length == 0)) := upL_one leaf i p
      have hq : ((p.length : Int) == 0) = (p.length == 0) := by
        rw [Bool.eq_iff_iff, beq_iff_eq, beq_iff_eq]; omega
      rw [HU.out]
      go_enter Tryd.func73, Tryd.ntmps73
      go_wp2
      go_ret2
      exact ⟨rfl, Below.refl _ _⟩
    · have hne : ((n : Int) == 1) = false := by rw [beq_eq_false_iff_ne]; omega
      by_cases hp : p.length = 0
      · have HU : Hid (upL leaf i n p = (⟨#[]⟩, false)) := upL_none leaf i n p (by omega) hp
        rw [HU.out]
        clear HU
        have hlt : ((p.length : Int) - 1) < 0 := by omega
        go_enter Tryd.func73, Tryd.ntmps73
        go_wp2
        go_ret2
        exact ⟨rfl, Below.refl _ _⟩
      · obtain ⟨b, o, rfl, hAt⟩ : ∃ b o, a = some ⟨b, o, none⟩ ∧ StrAt w b o p := by
          rcases HA.out with h | h
          · omega
          · exact h
        have HAt : Hid (StrAt w b o p) := hAt
        clear HA hAt
        obtain ⟨k, hk⟩ : ∃ k, k = spl n := ⟨_, rfl⟩
        have hkl := spl_lt (n := n) (by omega)
        rw [← hk] at hkl
        obtain ⟨hk1, hk2⟩ := hkl
        have HK : Hid (k = spl n) := hk
        obtain ⟨m, hm⟩ : ∃ m, p.length = m + 1 := ⟨p.length - 1, by omega⟩
        obtain ⟨y, hy⟩ : ∃ y, p.getD m ⟨#[]⟩ = y := ⟨_, rfl⟩
        have hpm : p[m]'(by omega) = y := by rw [← hy, List.getD_eq_getElem?_getD, List.getElem?_eq_getElem (by omega)]; rfl
        have HCM : Hid (∀ W : World, Below w.heap.size w W → W.cell? ⟨b, o + m, none⟩ = some (.string y)) := by
          intro W hb
          have := (HAt.out.below hb) m (by omega)
          rw [hpm] at this; exact this
        have HY : Hid (y.size ≤ 10995116270) := by
          show _ ≤ _
          rw [← hpm]; exact HSS.out _ (List.getElem_mem _)
        have HTL : Hid ((p.take m).length = m) := by show _ = _; rw [List.length_take]; omega
        have hmm : (p.length : Int) - 1 = (m : Int) := by omega
        have hmc : (m : Int) ≤ (cap : Int) := by omega
        have hm0 : ¬ (m : Int) < 0 := by omega
        have hml : (m : Int) < (p.length : Int) := by omega
        by_cases hi : i < k
        · have HU : Hid (upL leaf i n p = (nodeH (upL leaf i k (p.take m)).1 y, (upL leaf i k (p.take m)).2)) := by
            show _ = _
            rw [upL_low leaf i n p (by omega) hp (by omega), ← hk, show p.length - 1 = m from by omega, hy]
          rw [HU.out]
          have hik : (i : Int) < (k : Int) := by omega
          have HC := HIH.out i k cap (some ⟨b, o, none⟩) (p.take m) w (by omega) (by omega) (by omega) h4 (by rw [HTL.out]; omega) h6 (.inr ⟨b, o, rfl, HAt.out.take m⟩) (fun s hs => HSS.out s (List.mem_of_mem_take hs))
          rw [HTL.out] at HC
          have HCC : Hid (Calls _ _ _ _ _) := HC
          have HV : Hid ((upL leaf i k (p.take m)).1.size ≤ 10995116270) := up_size leaf hlf _ _ _ _
          clear HC hone hp hk hm hy hpm HU
          generalize upL leaf i k (p.take m) = uu at *
          go_enter Tryd.func73, Tryd.ntmps73
          go_wp2_with fail
          refine (spec_split n (by omega) h3 w).mono ?_
          rintro e w1 ⟨rfl, rfl⟩
          rw [← HK.out]
          go_wp2_with fail
          refine HCC.out.mono ?_
          rintro e w2 ⟨rfl, hb2⟩
          have hcm := HCM.out w2 hb2
          go_wp2_with fail
          refine (spec_node _ _ w2 HV.out HY.out).mono ?_
          rintro e w3 ⟨rfl, hb3⟩
          have hb4 := hb2.trans (hb3.mono hb2.size)
          clear hb2 hb3 hcm
          go_wp2
          go_ret2
          exact ⟨rfl, hb4⟩
        · have HU : Hid (upL leaf i n p = (nodeH y (upL leaf (i - k) (n - k) (p.take m)).1, (upL leaf (i - k) (n - k) (p.take m)).2)) := by
            show _ = _
            rw [upL_high leaf i n p (by omega) hp (by omega), ← hk, show p.length - 1 = m from by omega, hy]
          rw [HU.out]
          have hik : ¬ (i : Int) < (k : Int) := by omega
          have HC := HIH.out (i - k) (n - k) cap (some ⟨b, o, none⟩) (p.take m) w (by omega) (by omega) (by omega) (by omega) (by rw [HTL.out]; omega) h6 (.inr ⟨b, o, rfl, HAt.out.take m⟩) (fun s hs => HSS.out s (List.mem_of_mem_take hs))
          rw [HTL.out, show ((i - k : Nat) : Int) = (i : Int) - (k : Int) from by omega, show ((n - k : Nat) : Int) = (n : Int) - (k : Int) from by omega] at HC
          have HCC : Hid (Calls _ _ _ _ _) := HC
          have HV : Hid ((upL leaf (i - k) (n - k) (p.take m)).1.size ≤ 10995116270) := up_size leaf hlf _ _ _ _
          clear HC hone hp hk hm hy hpm HU
          generalize upL leaf (i - k) (n - k) (p.take m) = uu at *
          go_enter Tryd.func73, Tryd.ntmps73
          go_wp2_with fail
          refine (spec_split n (by omega) h3 w).mono ?_
          rintro e w1 ⟨rfl, rfl⟩
          rw [← HK.out]
          go_wp2_with fail
          refine HCC.out.mono ?_
          rintro e w2 ⟨rfl, hb2⟩
          have hcm := HCM.out w2 hb2
          go_wp2_with fail
          refine (spec_node _ _ w2 HY.out HV.out).mono ?_
          rintro e w3 ⟨rfl, hb3⟩
          have hb4 := hb2.trans (hb3.mono hb2.size)
          clear hb2 hb3 hcm
          go_wp2
          go_ret2
          exact ⟨rfl, hb4⟩
set_option maxHeartbeats 800000 in
theorem spec_pathRoot (leaf : ByteArray) (hlf : leaf.size ≤ 10995116270) (i n : Int) (hi0 : -9223372036854775808 ≤ i) (hi1 : i ≤ 9223372036854775807) (hn0 : -9223372036854775808 ≤ n) (hn1 : n ≤ 9223372036854775807) (cap : Nat) (a : Option Addr) (p : List ByteArray) (w : World)
    (h5 : p.length ≤ cap) (h6 : cap ≤ 9223372036854775807) (hA : StrO w a p) (hS : ∀ s ∈ p, s.size ≤ 10995116270) :
    Calls Tryd.prog 58 #[.string leaf, .int .i64 i, .int .i64 n, .slice a p.length cap] w fun e w' => e = .returned (.tuple #[.string (pathR leaf i n p).1, .bool (pathR leaf i n p).2]) ∧ Below w.heap.size w w' := by
  by_cases hno : i < 0 ∨ n ≤ i ∨ 40 < n
  · have HU : Hid (pathR leaf i n p = (⟨#[]⟩, false)) := by show _ = _; unfold pathR; rw [if_pos hno]
    rw [HU.out]
    clear hA hS HU
    by_cases hq1 : i < 0
    · clear hno
      go_enter Tryd.func58, Tryd.ntmps58
      go_wp2
      go_ret2
      exact ⟨rfl, Below.refl _ _⟩
    · by_cases hq2 : n ≤ i
      · clear hno
        go_enter Tryd.func58, Tryd.ntmps58
        go_wp2
        go_ret2
        exact ⟨rfl, Below.refl _ _⟩
      · have hq3 : 40 < n := by omega
        clear hno
        go_enter Tryd.func58, Tryd.ntmps58
        go_wp2
        go_ret2
        exact ⟨rfl, Below.refl _ _⟩
  · obtain ⟨i', rfl⟩ : ∃ m : Nat, i = (m : Int) := ⟨i.toNat, by omega⟩
    obtain ⟨n', rfl⟩ : ∃ m : Nat, n = (m : Int) := ⟨n.toNat, by omega⟩
    have q1 : ¬ (i' : Int) < 0 := by omega
    have q2 : ¬ (n' : Int) ≤ (i' : Int) := by omega
    have q3 : ¬ 40 < (n' : Int) := by omega
    have HC : Hid (Calls _ _ _ _ _) := spec_up leaf hlf n' i' n' cap a p w (by omega) (Nat.le_refl _) (by omega) (by omega) h5 h6 hA hS
    by_cases hu : (upL leaf i' n' p).2 = true
    · have HU : Hid (pathR leaf i' n' p = ((upL leaf i' n' p).1, true)) := by
        show _ = _
        unfold pathR; rw [if_neg hno, Int.toNat_natCast, Int.toNat_natCast, if_pos hu]
      rw [HU.out]
      rw [hu] at HC
      clear hA hS HU hno hu
      generalize (upL leaf i' n' p).1 = v at *
      go_enter Tryd.func58, Tryd.ntmps58
      go_wp2_with fail
      refine HC.out.mono ?_
      rintro e w1 ⟨rfl, hb⟩
      go_wp2
      go_ret2
      exact ⟨rfl, hb⟩
    · have HU : Hid (pathR leaf i' n' p = (⟨#[]⟩, false)) := by
        show _ = _
        unfold pathR; rw [if_neg hno, Int.toNat_natCast, Int.toNat_natCast, if_neg hu]
      rw [HU.out]
      have hu' : (upL leaf i' n' p).2 = false := by simpa using hu
      rw [hu'] at HC
      clear hA hS HU hno hu hu'
      generalize (upL leaf i' n' p).1 = v at *
      go_enter Tryd.func58, Tryd.ntmps58
      go_wp2_with fail
      refine HC.out.mono ?_
      rintro e w1 ⟨rfl, hb⟩
      go_wp2
      go_ret2
      exact ⟨rfl, hb⟩
set_option maxHeartbeats 800000 in
theorem spec_includes (root data : ByteArray) (hd : data.size ≤ 1099511627000) (i n : Int) (hi0 : -9223372036854775808 ≤ i) (hi1 : i ≤ 9223372036854775807) (hn0 : -9223372036854775808 ≤ n) (hn1 : n ≤ 9223372036854775807) (cap : Nat) (a : Option Addr) (p : List ByteArray) (w : World)
    (h5 : p.length ≤ cap) (h6 : cap ≤ 9223372036854775807) (hA : StrO w a p) (hS : ∀ s ∈ p, s.size ≤ 10995116270) :
    Calls Tryd.prog 38 #[.string root, .string data, .int .i64 i, .int .i64 n, .slice a p.length cap] w fun e w' => e = .returned (.bool (incl root data i n p)) ∧ Below w.heap.size w w' := by
  have HA : Hid (StrO w a p) := hA
  have HSS : Hid (∀ s ∈ p, s.size ≤ 10995116270) := hS
  have HL : Hid ((leafH data).size ≤ 10995116270) := by show _ ≤ _; rw [size_leafH]; decide
  obtain ⟨r, hr⟩ : ∃ r, pathR (leafH data) i n p = r := ⟨_, rfl⟩
  have HRR : Hid (pathR (leafH data) i n p = r) := hr
  rw [show incl root data i n p = (r.2 && r.1.toList == root.toList) from by rw [← hr]; rfl]
  clear hA hS hr
  obtain ⟨r1, r2⟩ := r
  go_enter Tryd.func38, Tryd.ntmps38
  go_wp2_with fail
  refine (spec_leaf data w hd).mono ?_
  rintro e w1 ⟨rfl, hb1⟩
  have HC : Hid (Calls _ _ _ _ _) := spec_pathRoot (leafH data) HL.out i n hi0 hi1 hn0 hn1 cap a p w1 h5 h6 (HA.out.below hb1) HSS.out
  rw [HRR.out] at HC
  go_wp2_with fail
  refine HC.out.mono ?_
  rintro e w2 ⟨rfl, hb2⟩
  have hb3 := hb1.trans (hb2.mono hb1.size)
  clear hb1 hb2 HC HRR
  cases r2
  · go_wp2
    go_ret
    exact ⟨rfl, hb3⟩
  · go_wp2
    go_ret
    exact ⟨rfl, hb3⟩
end Go.Proofs.YtppkjpfofgfiaaaDoor
