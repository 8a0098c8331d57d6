/- What spec.l4Root and spec.TreeRoot answer; old memory stays. Conditions: leaves of at most 2097152 bytes. -/
import Derived.Test.YtppkjpfofgfiaaaDoorMk1
namespace Go.Proofs.YtppkjpfofgfiaaaDoor
open Go.RowKit
open Num
set_option linter.unusedVariables false
/-- Texts that lie in a block's cells from a place on. -/
def StrAt (w : World) (b o : Nat) (ss : List ByteArray) : Prop := ∀ j (hj : j < ss.length), w.cell? ⟨b, o + j, none⟩ = some (.string ss[j])
theorem StrAt.below {w w' : World} {b o : Nat} {ss : List ByteArray} (h : StrAt w b o ss) (hb : Below w.heap.size w w') : StrAt w' b o ss := fun j hj => by
  have hc := h j hj
  rw [hb.cell (p := ⟨b, o + j, none⟩) (World.block_lt_of_cell? w _ hc)]; exact hc
theorem StrAt.win {w : World} {b o : Nat} {ss : List ByteArray} (h : StrAt w b o ss) (d n : Nat) : StrAt w b (o + d) ((ss.drop d).take n) := fun j hj => by
  have hj' : d + j < ss.length := by rw [List.length_take, List.length_drop] at hj; omega
  rw [Nat.add_assoc, h (d + j) hj']
  simp
/-- What holds between the calls. -/
def Rok (w : World) (b o : Nat) (ss : List ByteArray) (W : World) : Prop := StrAt W b o ss ∧ Below w.heap.size w W
theorem Rok.step {w W W' : World} {b o : Nat} {ss : List ByteArray} (h : Rok w b o ss W) (hb : Below W.heap.size W W') : Rok w b o ss W' := ⟨h.1.below hb, h.2.trans (hb.mono h.2.size)⟩
theorem Rok.drew {w W : World} {b o : Nat} {ss : List ByteArray} (h : Rok w b o ss W) : Rok w b o ss W.drew := ⟨h.1, h.2.drew⟩
/-- A part of the leaves. -/
def Part (o len cap : Nat) (o' n' c' : Nat) : Prop := o ≤ o' ∧ 1 ≤ n' ∧ o' - o + n' ≤ len ∧ n' < len ∧ n' ≤ c' ∧ c' ≤ cap
theorem c_node {w W : World} {b o : Nat} {ss : List ByteArray} (x y : ByteArray) (hx : x.size ≤ 10995116270) (hy : y.size ≤ 10995116270) (h : Rok w b o ss W) :
    Calls Tryd.prog 70 #[.string x, .string y] W fun e w' => e = .returned (.string (nodeH x y)) ∧ Rok w b o ss w' :=
  (spec_node x y W hx hy).mono fun e w' ⟨he, hb⟩ => ⟨he, h.step hb⟩
set_option maxHeartbeats 1600000 in
set_option maxRecDepth 100000 in
theorem spec_root : ∀ (f b o cap : Nat) (ss : List ByteArray) (w : World), 1 ≤ ss.length → ss.length ≤ f → ss.length ≤ 1048576 → ss.length ≤ cap → cap ≤ 9223372036854775807 → StrAt w b o ss → (∀ s ∈ ss, s.size ≤ 2097152) →
    Calls Tryd.prog 56 #[.slice (some ⟨b, o, none⟩) ss.length cap] w fun e w' => e = .returned (.string (rootL ss)) ∧ Below w.heap.size w w' := by
  intro f
  induction f with
  | zero => intro b o cap ss w h1 h2; omega
  | succ f ih =>
    intro b o cap ss w h1 h2 h3 h4 h5 hA hS
    have HA : Hid (StrAt w b o ss) := hA
    have HSS : Hid (∀ s ∈ ss, s.size ≤ 2097152) := hS
    have HIH : Hid (∀ (b o cap : Nat) (ss : List ByteArray) (w : World), 1 ≤ ss.length → ss.length ≤ f → ss.length ≤ 1048576 → ss.length ≤ cap → cap ≤ 9223372036854775807 → StrAt w b o ss → (∀ s ∈ ss, s.size ≤ 2097152) →
      Calls Tryd.prog 56 #[.slice (some ⟨b, o, none⟩) ss.length cap] w fun e w' => e = .returned (.string (rootL ss)) ∧ Below w.heap.size w w') := ih
    clear hA hS ih
    by_cases hone : ss.length = 1
    · obtain ⟨x, hx⟩ : ∃ x, ss = [x] := List.length_eq_one_iff.1 hone
      subst hx
      have hc : w.cell? ⟨b, o, none⟩ = some (.string x) := HA.out 0 (by simp)
      have HX : Hid (x.size ≤ 2097152) := HSS.out x (by simp)
      have HR : Hid (rootL [x] = leafH x) := rootL_one [x] rfl
      clear hone
      go_enter Tryd.func56, Tryd.ntmps56
      go_wp2_with fail
      refine (spec_leaf x w (by have := HX.out; omega)).mono ?_
      rintro e w1 ⟨rfl, hb⟩
      go_wp2
      go_ret
      exact ⟨by rw [HR.out]; rfl, hb⟩
    · have hne : ((ss.length : Int) == 1) = false := by rw [beq_eq_false_iff_ne]; omega
      have hs2 : 2 ≤ ss.length := by omega
      obtain ⟨k, hk⟩ : ∃ k, k = spl ss.length := ⟨_, rfl⟩
      have hkl := spl_lt hs2
      rw [← hk] at hkl
      obtain ⟨hk1, hk2⟩ := hkl
      have HK : Hid (k = spl ss.length) := hk
      have P1 : Part o ss.length cap o k cap := ⟨by omega, by omega, by omega, by omega, by omega, by omega⟩
      have P2 : Part o ss.length cap (o + k) (ss.length - k) (cap - k) := ⟨by omega, by omega, by omega, by omega, by omega, by omega⟩
      have HQ : Hid (Rok w b o ss w) := ⟨HA.out, Below.refl _ _⟩
      have HC : Hid (∀ (o' n' c' : Nat) (W : World), Part o ss.length cap o' n' c' → Rok w b o ss W → Calls Tryd.prog 56 #[.slice (some ⟨b, o', none⟩) n' c'] W fun e w' => e = .returned (.string (rootL ((ss.drop (o' - o)).take n'))) ∧ Rok w b o ss w') := by
        intro o' n' c' W ⟨p1, p2, p3, p4, p5, p6⟩ hW
        have hlen : ((ss.drop (o' - o)).take n').length = n' := by rw [List.length_take, List.length_drop]; omega
        have hA := hW.1.win (o' - o) n'
        rw [show o + (o' - o) = o' from by omega] at hA
        have h := HIH.out b o' c' ((ss.drop (o' - o)).take n') W (by omega) (by omega) (by omega) (by omega) (by omega) hA (fun s hs => HSS.out s (List.mem_of_mem_drop (List.mem_of_mem_take hs)))
        rw [hlen] at h
        exact h.mono fun e w' ⟨he, hb⟩ => ⟨he, hW.step hb⟩
      have z1 : (rootL (ss.take k)).size ≤ 10995116270 := by rw [size_rootL _ (by rw [List.length_take]; omega)]; decide
      have z2 : (rootL ((ss.drop k).take (ss.length - k))).size ≤ 10995116270 := by rw [size_rootL _ (by rw [List.length_take, List.length_drop]; omega)]; decide
      have HRT : Hid (nodeH (rootL (ss.take k)) (rootL ((ss.drop k).take (ss.length - k))) = rootL ss) := by
        show _ = _
        rw [rootL_more ss hs2, List.take_of_length_le (l := ss.drop k) (by rw [List.length_drop]; exact Nat.le_refl _), hk]
      clear hone hs2 hk
      have hkn : (k : Int) ≤ (ss.length : Int) := by omega
      have hkc : (k : Int) ≤ (cap : Int) := by omega
      go_enter Tryd.func56, Tryd.ntmps56
      go_wp2_with fail
      refine (spec_split ss.length (by omega) h3 w).mono ?_
      rintro e w1 ⟨rfl, rfl⟩
      rw [← HK.out]
      go_wp2
      go_region_held3 (fun W : World => Rok w1 b o ss W) (first | exact HQ.out | exact HQ.out.drew | assumption) (first | (go_at_call 56; refine (HC.out _ _ _ _ (by assumption) (by assumption)).mono ?_; rintro e w' ⟨rfl, hw'⟩) | (go_at_call 70; refine (c_node _ _ (by assumption) (by assumption) (by assumption)).mono ?_; rintro e w' ⟨rfl, hw'⟩))
      all_goals
        have HE : Hid (Below w1.heap.size w1 w') := hw'.2
        rw [HRT.out]
        go_wp2
        go_ret
        exact ⟨rfl, HE.out⟩
set_option maxHeartbeats 400000 in
theorem spec_treeRoot (b o cap : Nat) (ss : List ByteArray) (w : World) (h4 : ss.length ≤ cap) (h5 : cap ≤ 9223372036854775807) (hA : StrAt w b o ss) (hS : ∀ s ∈ ss, s.size ≤ 2097152) :
    Calls Tryd.prog 32 #[.slice (some ⟨b, o, none⟩) ss.length cap] w fun e w' => e = .returned (.string (treeR ss)) ∧ Below w.heap.size w w' := by
  have HA : Hid (StrAt w b o ss) := hA
  have HSS : Hid (∀ s ∈ ss, s.size ≤ 2097152) := hS
  clear hA hS
  by_cases hbig : 40 < ss.length
  · have HT : Hid (treeR ss = ⟨#[]⟩) := by show _ = _; unfold treeR; rw [if_pos hbig]
    have hb' : (40 : Int) < (ss.length : Int) := by omega
    go_enter Tryd.func32, Tryd.ntmps32
    go_wp2
    go_ret
    exact ⟨by rw [HT.out]; rfl, Below.refl _ _⟩
  · have hb' : ¬ (40 : Int) < (ss.length : Int) := by omega
    by_cases hz : ss.length = 0
    · have HT : Hid (treeR ss = shaB ⟨#[]⟩) := by show _ = _; unfold treeR; rw [if_neg hbig, if_pos hz]
      have hz' : ((ss.length : Int) == 0) = true := by rw [hz]; rfl
      go_enter Tryd.func32, Tryd.ntmps32
      go_wp2_with fail
      refine (spec_sha ⟨#[]⟩ w (by decide)).mono ?_
      rintro e w1 ⟨rfl, hb⟩
      go_wp2
      go_ret
      exact ⟨by rw [HT.out]; rfl, hb⟩
    · have HT : Hid (treeR ss = rootL ss) := by show _ = _; unfold treeR; rw [if_neg hbig, if_neg hz]
      have hz' : ((ss.length : Int) == 0) = false := by rw [beq_eq_false_iff_ne]; omega
      go_enter Tryd.func32, Tryd.ntmps32
      go_wp2_with fail
      refine (spec_root ss.length b o cap ss w (by omega) (Nat.le_refl _) (by omega) h4 h5 HA.out HSS.out).mono ?_
      rintro e w1 ⟨rfl, hb⟩
      go_wp2
      go_ret
      exact ⟨by rw [HT.out]; rfl, hb⟩
end Go.Proofs.YtppkjpfofgfiaaaDoor
