/- What the program's TreeRoot answers; old memory stays. -/
import Derived.Test.YtppkjpfofgfiaaaDoorIm2
import Derived.Laws.EntriesVeiled
namespace Go.Proofs.YtppkjpfofgfiaaaDoor
open Go.RowKit
open Num
set_option linter.unusedVariables false
set_option maxHeartbeats 400000 in
theorem impl_rootAny (g b o cap : Nat) (ss : List ByteArray) (w : World) (h1 : ss.length ≤ 40) (h4 : ss.length ≤ cap) (h5 : cap ≤ 9223372036854775807) (hA : StrAt w b o ss) (hS : ∀ s ∈ ss, s.size ≤ 2097152) (hT : Tab w) (hG : w.cell? ⟨g, 0, none⟩ = some (selfFn g)) :
    Calls Tryd.prog 45 #[.slice (some ⟨b, o, none⟩) ss.length cap, .pointer (some ⟨g, 0, none⟩)] w fun e w' => e = .returned (.string (treeR ss)) ∧ Below w.heap.size w w' := by
  by_cases hz : ss.length = 0
  · have HTR : Hid (treeR ss = shaB ⟨#[]⟩) := by show _ = _; unfold treeR; rw [if_neg (by omega), if_pos hz]
    have HT : Hid (Tab w) := hT
    have hz' : ((ss.length : Int) == 0) = true := by rw [hz]; rfl
    clear hA hS hT hG hz
    go_enter Tryd.func45, Tryd.ntmps45
    go_wp2_with fail
    refine (impl_sha ⟨#[]⟩ w (by decide) HT.out).mono ?_
    rintro e w1 ⟨rfl, hb⟩
    rw [sha_b]
    go_wp2
    go_ret
    exact ⟨by rw [HTR.out]; rfl, hb⟩
  · have h := impl_root ss.length g b o cap ss w (by omega) (Nat.le_refl _) (by omega) h4 h5 hA hS hT hG
    rw [treeR_few ss (by omega) h1]
    exact h
set_option maxHeartbeats 800000 in
theorem impl_treeRoot (b o cap : Nat) (ss : List ByteArray) (w : World) (h4 : ss.length ≤ cap) (h5 : cap ≤ 9223372036854775807) (hA : StrAt w b o ss) (hS : ∀ s ∈ ss, s.size ≤ 2097152) (hT : Tab w) :
    Calls Tryd.prog 24 #[.slice (some ⟨b, o, none⟩) ss.length cap] w fun e w' => e = .returned (.string (treeR ss)) ∧ Below w.heap.size w w' := by
  have HA : Hid (StrAt w b o ss) := hA
  have HSS : Hid (∀ s ∈ ss, s.size ≤ 2097152) := hS
  have HT : Hid (Tab w) := hT
  clear hA hS hT
  by_cases hbig : 40 < ss.length
  · have HR : Hid (treeR ss = ⟨#[]⟩) := by show _ = _; unfold treeR; rw [if_pos hbig]
    have hb' : (40 : Int) < (ss.length : Int) := by omega
    go_enter Tryd.func24, Tryd.ntmps24
    go_wp2
    go_ret
    exact ⟨by rw [HR.out]; rfl, Below.refl _ _⟩
  · have hb' : ¬ (40 : Int) < (ss.length : Int) := by omega
    have HC : Hid (Calls Tryd.prog 45 #[.slice (some ⟨b, o, none⟩) ss.length cap, .pointer (some ⟨w.heap.size, 0, none⟩)] (w.alloc (.cells #[.func (.func 45) #[] #[.pointer (some ⟨w.heap.size, 0, none⟩)]] 36)) fun e w' => e = .returned (.string (treeR ss)) ∧ Below w.heap.size w w') := by
      have hb := below_a1 w (.cells #[.func (.func 45) #[] #[.pointer (some ⟨w.heap.size, 0, none⟩)]] 36)
      refine (impl_rootAny w.heap.size b o cap ss _ (by omega) h4 h5 (HA.out.below hb) HSS.out (HT.out.below hb HT.out.pos) ?_).mono fun e w' ⟨he, hw⟩ => ⟨he, hb.trans (hw.mono hb.size)⟩
      rw [World.cell?_alloc_at _ _ _ _ rfl]; rfl
    go_enter Tryd.func24, Tryd.ntmps24
    go_wp2_with fail
    refine HC.out.mono ?_
    rintro e w1 ⟨rfl, hb1⟩
    go_wp2
    go_ret
    exact ⟨rfl, hb1⟩
theorem c_leaf : CLeaf Tab := fun x W hx hT => impl_leaf x W (by omega) hT
theorem c_nodeI : CNode Tab := fun x y W hx hy hT => impl_node x y W (by omega) (by omega) hT
theorem c_root : CRoot Tab := fun b o cap ss W h1 h2 h3 hA hS hT => impl_treeRoot b o cap ss W h2 h3 hA (fun s h => Nat.le_trans (hS s h) (by decide)) hT
end Go.Proofs.YtppkjpfofgfiaaaDoor
