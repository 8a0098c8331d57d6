/- What impl.ShowHeader answers; old memory stays. Conditions: none of ours. -/
import Derived.Test.YtajfmjgaaapjeaaGreatDoorIw
import Derived.Test.YtajfmjgaaapjeaaGreatDoorHp
import Derived.Test.YtajfmjgaaapjeaaGreatDoorG8
namespace Go.Proofs.YtajfmjgaaapjeaaGreatDoor
open Go.RowKit
open Num
set_option linter.unusedVariables false
theorem wr_new (w : World) : Wr (w.alloc (.cells #[.slice none 0 0] 152)) w.heap.size (.slice none 0 0) [] := by
  refine ⟨by simp, by simp, ?_⟩
  exact World.ownsRow_nil _ _ _ _
set_option maxHeartbeats 1600000 in
set_option maxRecDepth 100000 in
theorem impl_show (x : H) (w : World) :
    Calls Tryz.prog 96 #[hV x] w fun e w' => e = .returned (.string (showH x)) ∧ Below w.heap.size w w' := by
  have kO := fun W => impl_ok x W
  have HS : Hid (Six (w.alloc (.cells (hcs x) 27)) w.heap.size x) := six_new w x 27
  have HB : Hid (Below w.heap.size w (w.alloc (.cells (hcs x) 27))) := (Below.refl _ _).alloc (Nat.le_refl _) _
  have hz : w.heap.size < (w.alloc (.cells (hcs x) 27)).heap.size := by simp
  rcases hO : hOk x with _ | _
  · rw [showH_no hO]
    rw [hO] at kO
    clear hO
    obtain ⟨h, t, a, v, n, d⟩ := x
    obtain ⟨x0, x1, x2, x3, x4, x5⟩ := HS.out
    unfold hV at *
    unfold hcs at *
    simp only at kO x0 x1 x2 x3 x4 x5 ⊢
    go_enter Tryz.func96, Tryz.ntmps96
    go_wp2_with fail
    refine (kO _).mono ?_
    rintro e w2 ⟨rfl, b2⟩
    go_wp2
    go_ret
    exact ⟨rfl, HB.out.trans (b2.mono HB.out.size)⟩
  · rw [showH_yes hO]
    rw [hO] at kO
    have ho := (hOk_iff x).1 hO
    have ha := hOk_a hO
    clear hO
    obtain ⟨h, t, a, v, n, d⟩ := x
    obtain ⟨_, _, _, _, _, o1, o2, o3⟩ := ho
    simp only at ha o1 o2 o3
    have z1 := var_size h
    have z2 := var_size t
    have z3 := pc_size a
    have z4 := pc_size v
    have z5 := pc_size n
    have z6 := pc_size d
    have HL : Hid ((shH ⟨h, t, a, v, n, d⟩).data.toList = [] ++ (var h).data.toList ++ (var t).data.toList ++ (pc a).data.toList ++ (pc v).data.toList ++ (pc n).data.toList ++ (pc d).data.toList) := by
      show _ = _
      unfold shH
      simp only [list_append, List.nil_append]
    generalize shH ⟨h, t, a, v, n, d⟩ = R at *
    obtain ⟨l1, e1, u1⟩ : ∃ l : List UInt8, [] ++ (var h).data.toList = l ∧ l.length ≤ 100 := ⟨_, rfl, by simp only [List.length_append, List.length_nil, len_toList]; omega⟩
    obtain ⟨l2, e2, u2⟩ : ∃ l : List UInt8, l1 ++ (var t).data.toList = l ∧ l.length ≤ 200 := ⟨_, rfl, by simp only [List.length_append, len_toList]; omega⟩
    obtain ⟨l3, e3, u3⟩ : ∃ l : List UInt8, l2 ++ (pc a).data.toList = l ∧ l.length ≤ 300 := ⟨_, rfl, by simp only [List.length_append, len_toList]; omega⟩
    obtain ⟨l4, e4, u4⟩ : ∃ l : List UInt8, l3 ++ (pc v).data.toList = l ∧ l.length ≤ 400 := ⟨_, rfl, by simp only [List.length_append, len_toList]; omega⟩
    obtain ⟨l5, e5, u5⟩ : ∃ l : List UInt8, l4 ++ (pc n).data.toList = l ∧ l.length ≤ 500 := ⟨_, rfl, by simp only [List.length_append, len_toList]; omega⟩
    obtain ⟨l6, e6⟩ : ∃ l : List UInt8, l5 ++ (pc d).data.toList = l := ⟨_, rfl⟩
    have HR : Hid (R = ⟨l6.toArray⟩) := by
      refine list_inj ?_
      rw [HL.out, e1, e2, e3, e4, e5, e6]
    have K1 := fun (g : Nat) (u : Value) (W : World) (hw : Wr W g u []) => impl_num g h u [] W hw (by simp)
    have K2 := fun (g : Nat) (u : Value) (W : World) (hw : Wr W g u l1) => impl_num g t u l1 W hw (by omega)
    have K3 := fun (g : Nat) (u : Value) (W : World) (hw : Wr W g u l2) => impl_sized g a u l2 W hw (by omega) (by omega)
    have K4 := fun (g : Nat) (u : Value) (W : World) (hw : Wr W g u l3) => impl_sized g v u l3 W hw (by omega) (by omega)
    have K5 := fun (g : Nat) (u : Value) (W : World) (hw : Wr W g u l4) => impl_sized g n u l4 W hw (by omega) (by omega)
    have K6 := fun (g : Nat) (u : Value) (W : World) (hw : Wr W g u l5) => impl_sized g d u l5 W hw (by omega) (by omega)
    rw [e1] at K1
    rw [e2] at K2
    rw [e3] at K3
    rw [e4] at K4
    rw [e5] at K5
    rw [e6] at K6
    clear e1 e2 e3 e4 e5 e6 u1 u2 u3 u4 u5 z1 z2 z3 z4 z5 z6 HL ha o1 o2 o3
    obtain ⟨x0, x1, x2, x3, x4, x5⟩ := HS.out
    unfold hV at *
    unfold hcs at *
    simp only at kO x0 x1 x2 x3 x4 x5 ⊢
    go_enter Tryz.func96, Tryz.ntmps96
    go_wp2_with fail
    generalize w.alloc (Obj.cells #[Value.int .i64 h, Value.int .i64 t, Value.string a, Value.string v, Value.string n, Value.string d] 27) = w1 at *
    refine (kO _).mono ?_
    rintro e w2 ⟨rfl, b2⟩
    have HW2 : Hid (Wr (w2.alloc (.cells #[.slice none 0 0] 152)) w2.heap.size (.slice none 0 0) []) := wr_new w2
    have hg : w.heap.size < w2.heap.size := by have := b2.size; omega
    have HB2 : Hid (Below w.heap.size w (w2.alloc (.cells #[.slice none 0 0] 152))) := (HB.out.trans (b2.mono HB.out.size)).alloc (by omega) _
    have HS2 : Hid (Six (w2.alloc (.cells #[.slice none 0 0] 152)) w.heap.size ⟨h, t, a, v, n, d⟩) := (HS.out.below b2 hz).below ((Below.refl w2.heap.size _).alloc (Nat.le_refl _) _) hg
    clear b2 x0 x1 x2 x3 x4 x5 kO HS HB
    obtain ⟨x0, x1, x2, x3, x4, x5⟩ := HS2.out
    simp only at x0 x1 x2 x3 x4 x5
    go_wp2_with fail
    refine (K1 w2.heap.size (.slice none 0 0) _ HW2.out).mono ?_
    rintro e w3 ⟨rfl, v3, h3, b3, _⟩
    have HW3 : Hid (Wr w3 w2.heap.size v3 l1) := h3
    have HB3 : Hid (Below w.heap.size w w3) := HB2.out.trans (b3.mono (by omega))
    have HS3 : Hid (Six w3 w.heap.size ⟨h, t, a, v, n, d⟩) := HS2.out.below b3 hg
    clear h3 b3 x0 x1 x2 x3 x4 x5 HW2 HB2 HS2
    obtain ⟨x0, x1, x2, x3, x4, x5⟩ := HS3.out
    simp only at x0 x1 x2 x3 x4 x5
    go_wp2_with fail
    refine (K2 w2.heap.size v3 _ HW3.out).mono ?_
    rintro e w4 ⟨rfl, v4, h4, b4, _⟩
    have HW4 : Hid (Wr w4 w2.heap.size v4 l2) := h4
    have HB4 : Hid (Below w.heap.size w w4) := HB3.out.trans (b4.mono (by omega))
    have HS4 : Hid (Six w4 w.heap.size ⟨h, t, a, v, n, d⟩) := HS3.out.below b4 hg
    clear h4 b4 x0 x1 x2 x3 x4 x5 HW3 HB3 HS3
    obtain ⟨x0, x1, x2, x3, x4, x5⟩ := HS4.out
    simp only at x0 x1 x2 x3 x4 x5
    go_wp2_with fail
    refine (K3 w2.heap.size v4 _ HW4.out).mono ?_
    rintro e w5 ⟨rfl, v5, h5, b5⟩
    have HW5 : Hid (Wr w5 w2.heap.size v5 l3) := h5
    have HB5 : Hid (Below w.heap.size w w5) := HB4.out.trans (b5.mono (by omega))
    have HS5 : Hid (Six w5 w.heap.size ⟨h, t, a, v, n, d⟩) := HS4.out.below b5 hg
    clear h5 b5 x0 x1 x2 x3 x4 x5 HW4 HB4 HS4
    obtain ⟨x0, x1, x2, x3, x4, x5⟩ := HS5.out
    simp only at x0 x1 x2 x3 x4 x5
    go_wp2_with fail
    refine (K4 w2.heap.size v5 _ HW5.out).mono ?_
    rintro e w6 ⟨rfl, v6, h6, b6⟩
    have HW6 : Hid (Wr w6 w2.heap.size v6 l4) := h6
    have HB6 : Hid (Below w.heap.size w w6) := HB5.out.trans (b6.mono (by omega))
    have HS6 : Hid (Six w6 w.heap.size ⟨h, t, a, v, n, d⟩) := HS5.out.below b6 hg
    clear h6 b6 x0 x1 x2 x3 x4 x5 HW5 HB5 HS5
    obtain ⟨x0, x1, x2, x3, x4, x5⟩ := HS6.out
    simp only at x0 x1 x2 x3 x4 x5
    go_wp2_with fail
    refine (K5 w2.heap.size v6 _ HW6.out).mono ?_
    rintro e w7 ⟨rfl, v7, h7, b7⟩
    have HW7 : Hid (Wr w7 w2.heap.size v7 l5) := h7
    have HB7 : Hid (Below w.heap.size w w7) := HB6.out.trans (b7.mono (by omega))
    have HS7 : Hid (Six w7 w.heap.size ⟨h, t, a, v, n, d⟩) := HS6.out.below b7 hg
    clear h7 b7 x0 x1 x2 x3 x4 x5 HW6 HB6 HS6
    obtain ⟨x0, x1, x2, x3, x4, x5⟩ := HS7.out
    simp only at x0 x1 x2 x3 x4 x5
    go_wp2_with fail
    refine (K6 w2.heap.size v7 _ HW7.out).mono ?_
    rintro e w8 ⟨rfl, v8, h8, b8⟩
    have HW8 : Hid (Wr w8 w2.heap.size v8 l6) := h8
    have HB8 : Hid (Below w.heap.size w w8) := HB7.out.trans (b8.mono (by omega))
    have HS8 : Hid (Six w8 w.heap.size ⟨h, t, a, v, n, d⟩) := HS7.out.below b8 hg
    clear h8 b8 x0 x1 x2 x3 x4 x5 HW7 HB7 HS7
    obtain ⟨x0, x1, x2, x3, x4, x5⟩ := HS8.out
    simp only at x0 x1 x2 x3 x4 x5
    have y8 := HW8.out.1
    have hcv := run_str_own (P := Tryz.prog) w8 22 9 5 Tryz.underlying22 Tryz.underlying5 Tryz.underlying9 _ v8 _ _ HW8.out.2.2
    go_wp2
    go_ret
    exact ⟨by rw [HR.out]; rfl, HB8.out⟩
end Go.Proofs.YtajfmjgaaapjeaaGreatDoor
