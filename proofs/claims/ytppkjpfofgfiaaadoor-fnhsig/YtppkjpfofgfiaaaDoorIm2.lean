/- What the closure that TreeRoot makes answers, and TreeRoot; old memory stays. Conditions: at most 40 leaves below the root, of at most 2097152 bytes each; the closure's own cell holds the closure; the table of the hash lies where it was laid. -/
import Derived.Test.YtppkjpfofgfiaaaDoorIm1
namespace Go.Proofs.YtppkjpfofgfiaaaDoor
open Go.RowKit
open Num
set_option linter.unusedVariables false
/-- The closure that lies in a cell and knows that cell. -/
def selfFn (g : Nat) : Value := .func (.func 45) #[] #[.pointer (some ⟨g, 0, none⟩)]
/-- What holds between the calls. -/
def Rk (w : World) (g b o : Nat) (ss : List ByteArray) (W : World) : Prop := StrAt W b o ss ∧ Tab W ∧ W.cell? ⟨g, 0, none⟩ = some (selfFn g) ∧ Below w.heap.size w W
theorem Rk.step {w W W' : World} {g b o : Nat} {ss : List ByteArray} (h : Rk w g b o ss W) (hb : Below W.heap.size W W') : Rk w g b o ss W' :=
  ⟨h.1.below hb, h.2.1.below hb h.2.1.pos, by rw [hb.cell (p := ⟨g, 0, none⟩) (World.block_lt_of_cell? W _ h.2.2.1)]; exact h.2.2.1, h.2.2.2.trans (hb.mono h.2.2.2.size)⟩
theorem Rk.drew {w W : World} {g b o : Nat} {ss : List ByteArray} (h : Rk w g b o ss W) : Rk w g b o ss W.drew := ⟨h.1, h.2.1, h.2.2.1, h.2.2.2.drew⟩
/-- The same, with the closure's cell said apart. -/
def Rs (w : World) (g b o : Nat) (ss : List ByteArray) (W : World) : Prop := W.cell? ⟨g, 0, none⟩ = some (.func (.func 45) #[] #[.pointer (some ⟨g, 0, none⟩)]) ∧ Rk w g b o ss W
theorem Rk.rs {w W : World} {g b o : Nat} {ss : List ByteArray} (h : Rk w g b o ss W) : Rs w g b o ss W := ⟨h.2.2.1, h⟩
theorem ci_node {w W : World} {g b o : Nat} {ss : List ByteArray} (x y : ByteArray) (hx : x.size ≤ 10995116270) (hy : y.size ≤ 10995116270) (h : Rk w g b o ss W) :
    Calls Tryd.prog 49 #[.string x, .string y] W fun e w' => e = .returned (.string (nodeH x y)) ∧ Rk w g b o ss w' :=
  (impl_node x y W hx hy h.2.1).mono fun e w' ⟨he, hb⟩ => ⟨he, h.step hb⟩
theorem treeR_few (ss : List ByteArray) (h1 : 1 ≤ ss.length) (h2 : ss.length ≤ 40) : treeR ss = rootL ss := by
  unfold treeR; rw [if_neg (by omega), if_neg (by omega)]
set_option maxHeartbeats 1600000 in
set_option maxRecDepth 100000 in
theorem impl_root : ∀ (f g b o cap : Nat) (ss : List ByteArray) (w : World), 1 ≤ ss.length → ss.length ≤ f → ss.length ≤ 1048576 → ss.length ≤ cap → cap ≤ 9223372036854775807 → StrAt w b o ss → (∀ s ∈ ss, s.size ≤ 2097152) → Tab w → w.cell? ⟨g, 0, none⟩ = some (selfFn g) →
    Calls Tryd.prog 45 #[.slice (some ⟨b, o, none⟩) ss.length cap, .pointer (some ⟨g, 0, none⟩)] w fun e w' => e = .returned (.string (rootL ss)) ∧ Below w.heap.size w w' := by
  intro f
  induction f with
  | zero => intro g b o cap ss w h1 h2; omega
  | succ f ih =>
    intro g b o cap ss w h1 h2 h3 h4 h5 hA hS hT hG
    have HA : Hid (StrAt w b o ss) := hA
    have HSS : Hid (∀ s ∈ ss, s.size ≤ 2097152) := hS
    have HT : Hid (Tab w) := hT
    have HIH : Hid (∀ (g b o cap : Nat) (ss : List ByteArray) (w : World), 1 ≤ ss.length → ss.length ≤ f → ss.length ≤ 1048576 → ss.length ≤ cap → cap ≤ 9223372036854775807 → StrAt w b o ss → (∀ s ∈ ss, s.size ≤ 2097152) → Tab w → w.cell? ⟨g, 0, none⟩ = some (selfFn g) →
      Calls Tryd.prog 45 #[.slice (some ⟨b, o, none⟩) ss.length cap, .pointer (some ⟨g, 0, none⟩)] w fun e w' => e = .returned (.string (rootL ss)) ∧ Below w.heap.size w w') := ih
    have HQ : Hid (Rk w g b o ss w) := ⟨hA, hT, hG, Below.refl _ _⟩
    clear hA hS ih hT hG
    by_cases hone : ss.length = 1
    · obtain ⟨x, hx⟩ : ∃ x, ss = [x] := List.length_eq_one_iff.1 hone
      subst hx
      have hc : w.cell? ⟨b, o, none⟩ = some (.string x) := HA.out 0 (by simp)
      have HX : Hid (x.size ≤ 2097152) := HSS.out x (by simp)
      have HR : Hid (rootL [x] = leafH x) := rootL_one [x] rfl
      clear hone
      go_enter Tryd.func45, Tryd.ntmps45
      go_wp2_with fail
      refine (impl_leaf x w (by have := HX.out; omega) HT.out).mono ?_
      rintro e w1 ⟨rfl, hb⟩
      go_wp2
      go_ret
      exact ⟨by rw [HR.out]; rfl, hb⟩
    · have hne : ((ss.length : Int) == 1) = false := by rw [beq_eq_false_iff_ne]; omega
      have hne0 : ((ss.length : Int) == 0) = false := by rw [beq_eq_false_iff_ne]; omega
      have hs2 : 2 ≤ ss.length := by omega
      obtain ⟨k, hk⟩ : ∃ k, k = spl ss.length := ⟨_, rfl⟩
      have hkl := spl_lt hs2
      rw [← hk] at hkl
      obtain ⟨hk1, hk2⟩ := hkl
      have HK : Hid (k = spl ss.length) := hk
      have P1 : Part o ss.length cap o k cap := ⟨by omega, by omega, by omega, by omega, by omega, by omega⟩
      have P2 : Part o ss.length cap (o + k) (ss.length - k) (cap - k) := ⟨by omega, by omega, by omega, by omega, by omega, by omega⟩
      have HC : Hid (∀ (o' n' c' : Nat) (W : World), Part o ss.length cap o' n' c' → Rk w g b o ss W → Calls Tryd.prog 45 #[.slice (some ⟨b, o', none⟩) n' c', .pointer (some ⟨g, 0, none⟩)] W fun e w' => e = .returned (.string (rootL ((ss.drop (o' - o)).take n'))) ∧ Rk w g b o ss w') := by
        intro o' n' c' W ⟨p1, p2, p3, p4, p5, p6⟩ hW
        have hlen : ((ss.drop (o' - o)).take n').length = n' := by rw [List.length_take, List.length_drop]; omega
        have hA := hW.1.win (o' - o) n'
        rw [show o + (o' - o) = o' from by omega] at hA
        have h := HIH.out g b o' c' ((ss.drop (o' - o)).take n') W (by omega) (by omega) (by omega) (by omega) (by omega) hA (fun s hs => HSS.out s (List.mem_of_mem_drop (List.mem_of_mem_take hs))) hW.2.1 hW.2.2.1
        rw [hlen] at h
        exact h.mono fun e w' ⟨he, hb⟩ => ⟨he, hW.step hb⟩
      have z1 : (rootL (ss.take k)).size ≤ 10995116270 := by rw [size_rootL _ (by rw [List.length_take]; omega)]; decide
      have z2 : (rootL ((ss.drop k).take (ss.length - k))).size ≤ 10995116270 := by rw [size_rootL _ (by rw [List.length_take, List.length_drop]; omega)]; decide
      have HRT : Hid (nodeH (rootL (ss.take k)) (rootL ((ss.drop k).take (ss.length - k))) = rootL ss) := by
        show _ = _
        rw [rootL_more ss hs2, List.take_of_length_le (l := ss.drop k) (by rw [List.length_drop]; exact Nat.le_refl _), hk]
      clear hone hs2 hk
      have hkn : (k : Int) ≤ (ss.length : Int) := by omega
      have hkc : (k : Int) ≤ (cap : Int) := by omega
      have hck : ¬ cap = k := by omega
      go_enter Tryd.func45, Tryd.ntmps45
      go_wp2_with fail
      refine (impl_split ss.length (by omega) h3 w).mono ?_
      rintro e w1 ⟨rfl, rfl⟩
      rw [← HK.out]
      have HQd : Hid (Rk w1 g b o ss w1.drew) := HQ.out.drew
      go_wp2
      go_region_held3 (fun W : World => W.cell? ⟨g, 0, none⟩ = some (.func (.func 45) #[] #[.pointer (some ⟨g, 0, none⟩)]) ∧ Rk w1 g b o ss W) (first | exact HQ.out.rs | exact HQd.out.rs | exact Rk.rs (by assumption)) (first | (go_at_call 45; refine (HC.out _ _ _ _ (by assumption) (by assumption)).mono ?_; rintro e w' ⟨rfl, hw'⟩) | (go_at_call 49; refine (ci_node _ _ (by assumption) (by assumption) (by assumption)).mono ?_; rintro e w' ⟨rfl, hw'⟩))
      all_goals
        have HE : Hid (Below w1.heap.size w1 w') := hw'.2.2.2
        rw [HRT.out]
        go_wp2
        go_ret
        exact ⟨rfl, HE.out⟩
end Go.Proofs.YtppkjpfofgfiaaaDoor
