/- The walk of the exact law of ReadHeader: it answers true, old memory stays. Conditions: a text that a machine can hold. -/
import Derived.Test.YtncppnkedcpphaaIh
namespace Go.Proofs.Ytncppnkedcpphaa
open Go.RowKit
open Num
set_option linter.unusedVariables false
set_option maxHeartbeats 800000 in
theorem w_read (s : ByteArray) (w : World) (hs : s.size ≤ maxLen) :
    Calls Try.prog 5 #[.string s] w fun e w' => e = .returned (.bool true) ∧ Below w.heap.size w w' := by
  unfold maxLen at hs
  by_cases hbig : (1048576 : Int) < (s.size : Int)
  · go_enter Try.func5, Try.ntmps5
    go_wp2
    go_ret
    exact ⟨rfl, Below.refl _ _⟩
  have kA := fun W => spec_read s W (by omega)
  have kB := fun W => impl_read s W (by omega)
  obtain ⟨⟨y, b⟩, hr⟩ : ∃ r, rdH s = r := ⟨_, rfl⟩
  rw [hr] at kA kB
  simp only at kA kB
  clear hr
  have kE := fun W => eq_same y W
  have HN : Hid (∀ W : World, Six (W.alloc (.cells (hcs y) 26)) W.heap.size y) := fun W => six_new W y 26
  obtain ⟨h, t, a, v, n, d⟩ := y
  unfold hV at *
  unfold hcs at *
  simp only at kA kB kE
  go_enter Try.func5, Try.ntmps5
  go_wp2_with fail
  refine (kA _).mono ?_
  rintro e w1 ⟨rfl, b1⟩
  have H1 := HN.out w1
  have HB1 : Hid (Below w.heap.size w (w1.alloc (Obj.cells #[Value.int .i64 h, Value.int .i64 t, Value.string a, Value.string v, Value.string n, Value.string d] 26))) := b1.alloc b1.size _
  have hz1 : w1.heap.size < (w1.alloc (Obj.cells #[Value.int .i64 h, Value.int .i64 t, Value.string a, Value.string v, Value.string n, Value.string d] 26)).heap.size := by simp
  clear b1
  have HS1 : Hid (Six _ _ _) := H1
  clear H1
  go_wp2_with fail
  generalize w1.alloc (Obj.cells #[Value.int .i64 h, Value.int .i64 t, Value.string a, Value.string v, Value.string n, Value.string d] 26) = w2 at *
  refine (kB _).mono ?_
  rintro e w3 ⟨rfl, b3⟩
  have HS3 : Hid (Six w3 w1.heap.size ⟨h, t, a, v, n, d⟩) := HS1.out.below b3 hz1
  have HB3 : Hid (Below w.heap.size w w3) := HB1.out.trans (b3.mono HB1.out.size)
  clear b3 HS1 HB1 hz1
  have HS4 : Hid (Six (w3.alloc (Obj.cells #[Value.int .i64 h, Value.int .i64 t, Value.string a, Value.string v, Value.string n, Value.string d] 26)) w1.heap.size ⟨h, t, a, v, n, d⟩) := HS3.out.below ((Below.refl w3.heap.size w3).alloc (Nat.le_refl _) _) HS3.out.lt
  have HS5 : Hid (Six (w3.alloc (Obj.cells #[Value.int .i64 h, Value.int .i64 t, Value.string a, Value.string v, Value.string n, Value.string d] 26)) w3.heap.size ⟨h, t, a, v, n, d⟩) := HN.out w3
  have HB4 : Hid (Below w.heap.size w (w3.alloc (Obj.cells #[Value.int .i64 h, Value.int .i64 t, Value.string a, Value.string v, Value.string n, Value.string d] 26))) := HB3.out.alloc HB3.out.size _
  clear HS3 HB3
  obtain ⟨x0, x1, x2, x3, x4, x5⟩ := HS4.out
  obtain ⟨y0, y1, y2, y3, y4, y5⟩ := HS5.out
  simp only at x0 x1 x2 x3 x4 x5 y0 y1 y2 y3 y4 y5
  go_wp2_with fail
  refine (kE _).mono ?_
  rintro e w5 ⟨rfl, b5⟩
  clear x0 x1 x2 x3 x4 x5 y0 y1 y2 y3 y4 y5
  have HB5 : Hid (Below w.heap.size w w5) := HB4.out.trans (b5.mono HB4.out.size)
  go_wp2
  go_ret
  exact ⟨rfl, HB5.out⟩
end Go.Proofs.Ytncppnkedcpphaa
