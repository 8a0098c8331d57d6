/- What impl.ReadHeader answers; old memory stays. Conditions: texts of at most 2 to the 20 bytes. -/
import Derived.Test.YtbpmjejmeaifbaaDoorIr
import Derived.Test.YtbpmjejmeaifbaaDoorRs
import Derived.Test.YtbpmjejmeaifbaaDoorIs
namespace Go.Proofs.YtbpmjejmeaifbaaDoor
open Go.RowKit
open Num
set_option linter.unusedVariables false
theorem Frz.set {W : World} {g : Nat} (h : Frz W g) (a : Addr) (u : Value) : Frz (W.setCell a u) g := fun j => by rw [World.frozen?_setCell]; exact h j
theorem Hol.lt {W : World} {g : Nat} {x : H} (h : Hol W g x) : g < W.heap.size := h.1.lt
theorem Hol.far {W W' : World} {g b : Nat} {x : H} (h : Hol W b x) (hg : W.grownBy W' (some g)) (hne : b ≠ g) : Hol W' b x := by
  have hb : W'.heap[b]? = W.heap[b]? := hg.block b h.lt (fun e => hne (by injection e))
  obtain ⟨⟨h0, h1, h2, h3, h4, h5⟩, ff⟩ := h
  have c : ∀ j, W'.cell? ⟨b, j, none⟩ = W.cell? ⟨b, j, none⟩ := fun j => World.cell?_of_block (a := ⟨b, j, none⟩) hb
  exact ⟨⟨(c 0).trans h0, (c 1).trans h1, (c 2).trans h2, (c 3).trans h3, (c 4).trans h4, (c 5).trans h5⟩, fun j => (World.frozen?_of_block (a := ⟨b, j, none⟩) hb).trans (ff j)⟩
theorem far_cell {W : World} {b g j k : Nat} {u c : Value} (h : W.cell? ⟨b, j, none⟩ = some c) (hne : g ≠ b) : (W.setCell ⟨g, k, none⟩ u).cell? ⟨b, j, none⟩ = some c := by
  rw [World.cell?_setCell_other W ⟨g, k, none⟩ ⟨b, j, none⟩ u (fun e => hne (by injection e))]; exact h
theorem Hol.other {W : World} {g b k : Nat} {x : H} {u : Value} (h : Hol W b x) (hne : g ≠ b) : Hol (W.setCell ⟨g, k, none⟩ u) b x := by
  obtain ⟨⟨h0, h1, h2, h3, h4, h5⟩, ff⟩ := h
  exact ⟨⟨far_cell h0 hne, far_cell h1 hne, far_cell h2 hne, far_cell h3 hne, far_cell h4 hne, far_cell h5 hne⟩, ff.set _ _⟩
theorem Rdr.other {W : World} {g b k : Nat} {s : ByteArray} {u : Value} (h : Rdr W b s) (hne : g ≠ b) : Rdr (W.setCell ⟨g, k, none⟩ u) b s :=
  ⟨far_cell h.1 hne, by rw [World.frozen?_setCell]; exact h.2⟩
/-- The answer's block, the reader's, the header's, one behind the other. -/
def RS (w W : World) (s : ByteArray) (y : H) : Prop := Hol W w.heap.size zH ∧ Rdr W (w.heap.size + 1) s ∧ Hol W (w.heap.size + 1 + 1) y ∧ Below w.heap.size w W
theorem RS.grown {w W W' : World} {s s' : ByteArray} {y : H} (h : RS w W s y) (hg : W.grownBy W' (some (w.heap.size + 1))) (hr : Rdr W' (w.heap.size + 1) s') : RS w W' s' y :=
  ⟨h.1.far hg (by omega), hr, h.2.2.1.far hg (by omega), h.2.2.2.grown hg (Nat.le_of_lt h.1.lt) (fun k hk => by injection hk; omega)⟩
theorem Hol.set0 {W : World} {g : Nat} {y : H} (h : Hol W g y) (u : Int) : Hol (W.setCell ⟨g, 0, none⟩ (.int .i64 u)) g ⟨u, y.t, y.a, y.v, y.n, y.d⟩ := by
  obtain ⟨⟨h0, h1, h2, h3, h4, h5⟩, ff⟩ := h
  exact ⟨⟨World.cell?_setCell_same _ _ _ h0, set_at h1 (by decide), set_at h2 (by decide), set_at h3 (by decide), set_at h4 (by decide), set_at h5 (by decide)⟩, ff.set _ _⟩
theorem RS.set0 {w W : World} {s : ByteArray} {y : H} (h : RS w W s y) (u : Int) : RS w (W.setCell ⟨w.heap.size + 1 + 1, 0, none⟩ (.int .i64 u)) s ⟨u, y.t, y.a, y.v, y.n, y.d⟩ :=
  ⟨h.1.other (by omega), h.2.1.other (by omega), h.2.2.1.set0 u, h.2.2.2.setCell (by show w.heap.size ≤ w.heap.size + 1 + 1; omega) _⟩
theorem Hol.set1 {W : World} {g : Nat} {y : H} (h : Hol W g y) (u : Int) : Hol (W.setCell ⟨g, 1, none⟩ (.int .i64 u)) g ⟨y.h, u, y.a, y.v, y.n, y.d⟩ := by
  obtain ⟨⟨h0, h1, h2, h3, h4, h5⟩, ff⟩ := h
  exact ⟨⟨set_at h0 (by decide), World.cell?_setCell_same _ _ _ h1, set_at h2 (by decide), set_at h3 (by decide), set_at h4 (by decide), set_at h5 (by decide)⟩, ff.set _ _⟩
theorem RS.set1 {w W : World} {s : ByteArray} {y : H} (h : RS w W s y) (u : Int) : RS w (W.setCell ⟨w.heap.size + 1 + 1, 1, none⟩ (.int .i64 u)) s ⟨y.h, u, y.a, y.v, y.n, y.d⟩ :=
  ⟨h.1.other (by omega), h.2.1.other (by omega), h.2.2.1.set1 u, h.2.2.2.setCell (by show w.heap.size ≤ w.heap.size + 1 + 1; omega) _⟩
theorem Hol.set2 {W : World} {g : Nat} {y : H} (h : Hol W g y) (u : ByteArray) : Hol (W.setCell ⟨g, 2, none⟩ (.string u)) g ⟨y.h, y.t, u, y.v, y.n, y.d⟩ := by
  obtain ⟨⟨h0, h1, h2, h3, h4, h5⟩, ff⟩ := h
  exact ⟨⟨set_at h0 (by decide), set_at h1 (by decide), World.cell?_setCell_same _ _ _ h2, set_at h3 (by decide), set_at h4 (by decide), set_at h5 (by decide)⟩, ff.set _ _⟩
theorem RS.set2 {w W : World} {s : ByteArray} {y : H} (h : RS w W s y) (u : ByteArray) : RS w (W.setCell ⟨w.heap.size + 1 + 1, 2, none⟩ (.string u)) s ⟨y.h, y.t, u, y.v, y.n, y.d⟩ :=
  ⟨h.1.other (by omega), h.2.1.other (by omega), h.2.2.1.set2 u, h.2.2.2.setCell (by show w.heap.size ≤ w.heap.size + 1 + 1; omega) _⟩
theorem Hol.set3 {W : World} {g : Nat} {y : H} (h : Hol W g y) (u : ByteArray) : Hol (W.setCell ⟨g, 3, none⟩ (.string u)) g ⟨y.h, y.t, y.a, u, y.n, y.d⟩ := by
  obtain ⟨⟨h0, h1, h2, h3, h4, h5⟩, ff⟩ := h
  exact ⟨⟨set_at h0 (by decide), set_at h1 (by decide), set_at h2 (by decide), World.cell?_setCell_same _ _ _ h3, set_at h4 (by decide), set_at h5 (by decide)⟩, ff.set _ _⟩
theorem RS.set3 {w W : World} {s : ByteArray} {y : H} (h : RS w W s y) (u : ByteArray) : RS w (W.setCell ⟨w.heap.size + 1 + 1, 3, none⟩ (.string u)) s ⟨y.h, y.t, y.a, u, y.n, y.d⟩ :=
  ⟨h.1.other (by omega), h.2.1.other (by omega), h.2.2.1.set3 u, h.2.2.2.setCell (by show w.heap.size ≤ w.heap.size + 1 + 1; omega) _⟩
theorem Hol.set4 {W : World} {g : Nat} {y : H} (h : Hol W g y) (u : ByteArray) : Hol (W.setCell ⟨g, 4, none⟩ (.string u)) g ⟨y.h, y.t, y.a, y.v, u, y.d⟩ := by
  obtain ⟨⟨h0, h1, h2, h3, h4, h5⟩, ff⟩ := h
  exact ⟨⟨set_at h0 (by decide), set_at h1 (by decide), set_at h2 (by decide), set_at h3 (by decide), World.cell?_setCell_same _ _ _ h4, set_at h5 (by decide)⟩, ff.set _ _⟩
theorem RS.set4 {w W : World} {s : ByteArray} {y : H} (h : RS w W s y) (u : ByteArray) : RS w (W.setCell ⟨w.heap.size + 1 + 1, 4, none⟩ (.string u)) s ⟨y.h, y.t, y.a, y.v, u, y.d⟩ :=
  ⟨h.1.other (by omega), h.2.1.other (by omega), h.2.2.1.set4 u, h.2.2.2.setCell (by show w.heap.size ≤ w.heap.size + 1 + 1; omega) _⟩
theorem Hol.set5 {W : World} {g : Nat} {y : H} (h : Hol W g y) (u : ByteArray) : Hol (W.setCell ⟨g, 5, none⟩ (.string u)) g ⟨y.h, y.t, y.a, y.v, y.n, u⟩ := by
  obtain ⟨⟨h0, h1, h2, h3, h4, h5⟩, ff⟩ := h
  exact ⟨⟨set_at h0 (by decide), set_at h1 (by decide), set_at h2 (by decide), set_at h3 (by decide), set_at h4 (by decide), World.cell?_setCell_same _ _ _ h5⟩, ff.set _ _⟩
theorem RS.set5 {w W : World} {s : ByteArray} {y : H} (h : RS w W s y) (u : ByteArray) : RS w (W.setCell ⟨w.heap.size + 1 + 1, 5, none⟩ (.string u)) s ⟨y.h, y.t, y.a, y.v, y.n, u⟩ :=
  ⟨h.1.other (by omega), h.2.1.other (by omega), h.2.2.1.set5 u, h.2.2.2.setCell (by show w.heap.size ≤ w.heap.size + 1 + 1; omega) _⟩
theorem RS.below {w W W' : World} {s : ByteArray} {y : H} (h : RS w W s y) (hb : Below W.heap.size W W') : RS w W' s y :=
  ⟨h.1.below hb h.1.lt, h.2.1.keep hb, h.2.2.1.below hb h.2.2.1.lt, h.2.2.2.trans (hb.mono (Nat.le_of_lt h.1.lt))⟩
theorem rs_new (w : World) (s : ByteArray) : RS w (((w.alloc (.cells (hcs zH) 25)).alloc (.cells #[.string s] 57)).alloc (.cells (hcs zH) 25)) s zH := by
  have s1 : (w.alloc (.cells (hcs zH) 25)).heap.size = w.heap.size + 1 := by simp
  have s2 : ((w.alloc (.cells (hcs zH) 25)).alloc (.cells #[.string s] 57)).heap.size = w.heap.size + 1 + 1 := by simp
  have b1 : Below (w.heap.size + 1) (w.alloc (.cells (hcs zH) 25)) ((w.alloc (.cells (hcs zH) 25)).alloc (.cells #[.string s] 57)) := (Below.refl _ _).alloc (by omega) _
  have b2 : Below (w.heap.size + 1 + 1) ((w.alloc (.cells (hcs zH) 25)).alloc (.cells #[.string s] 57)) (((w.alloc (.cells (hcs zH) 25)).alloc (.cells #[.string s] 57)).alloc (.cells (hcs zH) 25)) := (Below.refl _ _).alloc (by omega) _
  refine ⟨((hol_new w zH 25).below b1 (by omega)).below b2 (by omega), ?_, ?_, ((((Below.refl _ _).alloc (Nat.le_refl _) _).alloc (by omega) _).alloc (by omega) _)⟩
  · have r1 : Rdr ((w.alloc (.cells (hcs zH) 25)).alloc (.cells #[.string s] 57)) (w.heap.size + 1) s := by
      rw [← s1]
      exact ⟨by simp, by simp⟩
    exact ⟨(b2.cell (p := ⟨w.heap.size + 1, 0, none⟩) (Nat.lt_succ_self _)).trans r1.1, (b2.frozen (p := ⟨w.heap.size + 1, 0, none⟩) (Nat.lt_succ_self _)).trans r1.2⟩
  · rw [← s2]
    exact hol_new _ zH 25
set_option maxHeartbeats 3200000 in
set_option maxRecDepth 100000 in
theorem impl_read (s : ByteArray) (w : World) (hs : s.size ≤ 1048576) :
    Calls Tryd.prog 7 #[.string s] w fun e w' => e = .returned (.tuple #[hV (rdH s).1, .bool (rdH s).2]) ∧ Below w.heap.size w w' := by
  have HS0 : Hid (RS w (((w.alloc (.cells (hcs zH) 25)).alloc (.cells #[.string s] 57)).alloc (.cells (hcs zH) 25)) s zH) := rs_new w s
  obtain ⟨X0, e0⟩ : ∃ x, nI s = x := ⟨_, rfl⟩
  obtain ⟨s1, f1⟩ : ∃ x, nR s = x := ⟨_, rfl⟩
  obtain ⟨X1, e1⟩ : ∃ x, nI s1 = x := ⟨_, rfl⟩
  obtain ⟨s2, f2⟩ : ∃ x, nR s1 = x := ⟨_, rfl⟩
  obtain ⟨A1, e2⟩ : ∃ x, zP s2 = x := ⟨_, rfl⟩
  obtain ⟨s3, f3⟩ : ∃ x, zR s2 = x := ⟨_, rfl⟩
  obtain ⟨V1, e3⟩ : ∃ x, zP s3 = x := ⟨_, rfl⟩
  obtain ⟨s4, f4⟩ : ∃ x, zR s3 = x := ⟨_, rfl⟩
  obtain ⟨N1, e4⟩ : ∃ x, zP s4 = x := ⟨_, rfl⟩
  obtain ⟨s5, f5⟩ : ∃ x, zR s4 = x := ⟨_, rfl⟩
  obtain ⟨D1, e5⟩ : ∃ x, zP s5 = x := ⟨_, rfl⟩
  obtain ⟨s6, f6⟩ : ∃ x, zR s5 = x := ⟨_, rfl⟩
  have HY : Hid (irH s = ⟨X0, X1, A1, V1, N1, D1⟩) := by
    show _ = _
    unfold irH
    rw [f1, f2, f3, f4, f5, e0, e1, e2, e3, e4, e5]
  have z1 := nR_size s
  have z2 := nR_size s1
  have z3 := zR_size s2
  have z4 := zR_size s3
  have z5 := zR_size s4
  rw [f1] at z1
  rw [f2] at z2
  rw [f3] at z3
  rw [f4] at z4
  rw [f5] at z5
  have k0 := fun W (h : Rdr W (w.heap.size + 1) s) => impl_rnum (w.heap.size + 1) s W h (by omega)
  have k1 := fun W (h : Rdr W (w.heap.size + 1) s1) => impl_rnum (w.heap.size + 1) s1 W h (by omega)
  have k2 := fun W (h : Rdr W (w.heap.size + 1) s2) => impl_rsized (w.heap.size + 1) s2 W h (by omega)
  have k3 := fun W (h : Rdr W (w.heap.size + 1) s3) => impl_rsized (w.heap.size + 1) s3 W h (by omega)
  have k4 := fun W (h : Rdr W (w.heap.size + 1) s4) => impl_rsized (w.heap.size + 1) s4 W h (by omega)
  have k5 := fun W (h : Rdr W (w.heap.size + 1) s5) => impl_rsized (w.heap.size + 1) s5 W h (by omega)
  rw [e0, f1] at k0
  rw [e1, f2] at k1
  rw [e2, f3] at k2
  rw [e3, f4] at k3
  rw [e4, f5] at k4
  rw [e5, f6] at k5
  clear e0 e1 e2 e3 e4 e5 f1 f2 f3 f4 f5 f6 z1 z2 z3 z4 z5
  have kO := fun W => impl_ok ⟨X0, X1, A1, V1, N1, D1⟩ W
  have kS := fun W => impl_show ⟨X0, X1, A1, V1, N1, D1⟩ W
  unfold hcs zH at HS0
  by_cases hO : hOk ⟨X0, X1, A1, V1, N1, D1⟩ = true
  · rw [hO] at kO
    by_cases hF : showH ⟨X0, X1, A1, V1, N1, D1⟩ = s
    · rw [rd_good (by rw [HY.out]; exact hO) (by rw [HY.out]; exact hF), HY.out]
      rw [hF] at kS
      have hbq : (s.toList == s.toList) = true := by simp
      clear HY hO hF
      unfold hV at *
      simp only at kO kS ⊢
      go_enter Tryd.func7, Tryd.ntmps7
      go_wp2_with fail
      generalize ((w.alloc (Obj.cells #[Value.int .i64 0, Value.int .i64 0, Value.string ⟨#[]⟩, Value.string ⟨#[]⟩, Value.string ⟨#[]⟩, Value.string ⟨#[]⟩] 25)).alloc (Obj.cells #[Value.string s] 57)).alloc (Obj.cells #[Value.int .i64 0, Value.int .i64 0, Value.string ⟨#[]⟩, Value.string ⟨#[]⟩, Value.string ⟨#[]⟩, Value.string ⟨#[]⟩] 25) = v0 at *
      refine (k0 _ HS0.out.2.1).mono ?_
      rintro e w0 ⟨rfl, rfl⟩
      have HT0 : Hid (RS w (v0.setCell ⟨w.heap.size + 1, 0, none⟩ (.string s1)) s1 ⟨0, 0, ⟨#[]⟩, ⟨#[]⟩, ⟨#[]⟩, ⟨#[]⟩⟩) := HS0.out.grown (grown_set (grown_refl _ _) _) (HS0.out.2.1.put _)
      generalize v0.setCell ⟨w.heap.size + 1, 0, none⟩ (.string s1) = u0 at *
      clear HS0
      obtain ⟨⟨x0, x1, x2, x3, x4, x5⟩, ff⟩ := HT0.out.2.2.1
      unfold Frz at ff
      simp only at x0 x1 x2 x3 x4 x5
      have HS1 : Hid (RS w (u0.setCell ⟨w.heap.size + 1 + 1, 0, none⟩ (.int .i64 X0)) s1 ⟨X0, 0, ⟨#[]⟩, ⟨#[]⟩, ⟨#[]⟩, ⟨#[]⟩⟩) := HT0.out.set0 _
      go_wp2_with fail
      clear x0 x1 x2 x3 x4 x5 ff
      clear HT0
      generalize u0.setCell ⟨w.heap.size + 1 + 1, 0, none⟩ (.int .i64 X0) = v1 at *
      refine (k1 _ HS1.out.2.1).mono ?_
      rintro e w1 ⟨rfl, rfl⟩
      have HT1 : Hid (RS w (v1.setCell ⟨w.heap.size + 1, 0, none⟩ (.string s2)) s2 ⟨X0, 0, ⟨#[]⟩, ⟨#[]⟩, ⟨#[]⟩, ⟨#[]⟩⟩) := HS1.out.grown (grown_set (grown_refl _ _) _) (HS1.out.2.1.put _)
      generalize v1.setCell ⟨w.heap.size + 1, 0, none⟩ (.string s2) = u1 at *
      clear HS1
      obtain ⟨⟨x0, x1, x2, x3, x4, x5⟩, ff⟩ := HT1.out.2.2.1
      unfold Frz at ff
      simp only at x0 x1 x2 x3 x4 x5
      have HS2 : Hid (RS w (u1.setCell ⟨w.heap.size + 1 + 1, 1, none⟩ (.int .i64 X1)) s2 ⟨X0, X1, ⟨#[]⟩, ⟨#[]⟩, ⟨#[]⟩, ⟨#[]⟩⟩) := HT1.out.set1 _
      go_wp2_with fail
      clear x0 x1 x2 x3 x4 x5 ff
      clear HT1
      generalize u1.setCell ⟨w.heap.size + 1 + 1, 1, none⟩ (.int .i64 X1) = v2 at *
      refine (k2 _ HS2.out.2.1).mono ?_
      rintro e u2 ⟨rfl, hr, hg⟩
      have HT2 : Hid (RS w u2 s3 ⟨X0, X1, ⟨#[]⟩, ⟨#[]⟩, ⟨#[]⟩, ⟨#[]⟩⟩) := HS2.out.grown hg hr
      clear hr hg
      clear HS2
      obtain ⟨⟨x0, x1, x2, x3, x4, x5⟩, ff⟩ := HT2.out.2.2.1
      unfold Frz at ff
      simp only at x0 x1 x2 x3 x4 x5
      have HS3 : Hid (RS w (u2.setCell ⟨w.heap.size + 1 + 1, 2, none⟩ (.string A1)) s3 ⟨X0, X1, A1, ⟨#[]⟩, ⟨#[]⟩, ⟨#[]⟩⟩) := HT2.out.set2 _
      go_wp2_with fail
      clear x0 x1 x2 x3 x4 x5 ff
      clear HT2
      generalize u2.setCell ⟨w.heap.size + 1 + 1, 2, none⟩ (.string A1) = v3 at *
      refine (k3 _ HS3.out.2.1).mono ?_
      rintro e u3 ⟨rfl, hr, hg⟩
      have HT3 : Hid (RS w u3 s4 ⟨X0, X1, A1, ⟨#[]⟩, ⟨#[]⟩, ⟨#[]⟩⟩) := HS3.out.grown hg hr
      clear hr hg
      clear HS3
      obtain ⟨⟨x0, x1, x2, x3, x4, x5⟩, ff⟩ := HT3.out.2.2.1
      unfold Frz at ff
      simp only at x0 x1 x2 x3 x4 x5
      have HS4 : Hid (RS w (u3.setCell ⟨w.heap.size + 1 + 1, 3, none⟩ (.string V1)) s4 ⟨X0, X1, A1, V1, ⟨#[]⟩, ⟨#[]⟩⟩) := HT3.out.set3 _
      go_wp2_with fail
      clear x0 x1 x2 x3 x4 x5 ff
      clear HT3
      generalize u3.setCell ⟨w.heap.size + 1 + 1, 3, none⟩ (.string V1) = v4 at *
      refine (k4 _ HS4.out.2.1).mono ?_
      rintro e u4 ⟨rfl, hr, hg⟩
      have HT4 : Hid (RS w u4 s5 ⟨X0, X1, A1, V1, ⟨#[]⟩, ⟨#[]⟩⟩) := HS4.out.grown hg hr
      clear hr hg
      clear HS4
      obtain ⟨⟨x0, x1, x2, x3, x4, x5⟩, ff⟩ := HT4.out.2.2.1
      unfold Frz at ff
      simp only at x0 x1 x2 x3 x4 x5
      have HS5 : Hid (RS w (u4.setCell ⟨w.heap.size + 1 + 1, 4, none⟩ (.string N1)) s5 ⟨X0, X1, A1, V1, N1, ⟨#[]⟩⟩) := HT4.out.set4 _
      go_wp2_with fail
      clear x0 x1 x2 x3 x4 x5 ff
      clear HT4
      generalize u4.setCell ⟨w.heap.size + 1 + 1, 4, none⟩ (.string N1) = v5 at *
      refine (k5 _ HS5.out.2.1).mono ?_
      rintro e u5 ⟨rfl, hr, hg⟩
      have HT5 : Hid (RS w u5 s6 ⟨X0, X1, A1, V1, N1, ⟨#[]⟩⟩) := HS5.out.grown hg hr
      clear hr hg
      clear HS5
      obtain ⟨⟨x0, x1, x2, x3, x4, x5⟩, ff⟩ := HT5.out.2.2.1
      unfold Frz at ff
      simp only at x0 x1 x2 x3 x4 x5
      have HS6 : Hid (RS w (u5.setCell ⟨w.heap.size + 1 + 1, 5, none⟩ (.string D1)) s6 ⟨X0, X1, A1, V1, N1, D1⟩) := HT5.out.set5 _
      go_wp2_with fail
      clear x0 x1 x2 x3 x4 x5 ff HT5
      generalize u5.setCell ⟨w.heap.size + 1 + 1, 5, none⟩ (.string D1) = v6 at *
      refine (kO _).mono ?_
      rintro e v7 ⟨rfl, b7⟩
      have HS7 : Hid (RS w v7 s6 ⟨X0, X1, A1, V1, N1, D1⟩) := HS6.out.below b7
      clear b7 HS6
      obtain ⟨⟨x0, x1, x2, x3, x4, x5⟩, _⟩ := HS7.out.2.2.1
      simp only at x0 x1 x2 x3 x4 x5
      go_wp2_with fail
      refine (kS _).mono ?_
      rintro e v8 ⟨rfl, b8⟩
      have HS8 : Hid (RS w v8 s6 ⟨X0, X1, A1, V1, N1, D1⟩) := HS7.out.below b8
      clear b8 HS7 x0 x1 x2 x3 x4 x5
      obtain ⟨⟨x0, x1, x2, x3, x4, x5⟩, ff⟩ := HS8.out.1
      unfold Frz at ff
      simp only [zH] at x0 x1 x2 x3 x4 x5
      obtain ⟨⟨p0, p1, p2, p3, p4, p5⟩, _⟩ := HS8.out.2.2.1
      simp only at p0 p1 p2 p3 p4 p5
      have HZ : Hid (Six (put6 v8 w.heap.size ⟨X0, X1, A1, V1, N1, D1⟩) w.heap.size ⟨X0, X1, A1, V1, N1, D1⟩) := put6_six HS8.out.1.1
      have HB2 : Hid (Below w.heap.size w (put6 v8 w.heap.size ⟨X0, X1, A1, V1, N1, D1⟩)) := put6_below _ HS8.out.2.2.2 (Nat.le_refl _)
      go_wp2
      clear x0 x1 x2 x3 x4 x5 p0 p1 p2 p3 p4 p5
      obtain ⟨y0, y1, y2, y3, y4, y5⟩ := HZ.out
      unfold put6 at y0 y1 y2 y3 y4 y5
      simp only at y0 y1 y2 y3 y4 y5
      refine bodyPost_ret (v := .tuple #[.agg #[.int .i64 X0, .int .i64 X1, .string A1, .string V1, .string N1, .string D1], .bool true]) ?_ rfl ⟨rfl, HB2.out⟩
      generalize hW : ((((((v8.setCell _ _).setCell _ _).setCell _ _).setCell _ _).setCell _ _).setCell _ _ : World) = W at *
      clear HZ HB2
      simp [results, Tryd.results7, go_sem, y0, y1, y2, y3, y4, y5]
    · rw [rd_other (by rw [HY.out]; exact hF)]
      generalize showH ⟨X0, X1, A1, V1, N1, D1⟩ = q at *
      have hbq : (q.toList == s.toList) = false := by
        rw [← Bool.not_eq_true, beq_iff_eq]
        intro e
        exact hF (toList_inj e)
      clear HY hO hF
      unfold hV zH at *
      simp only at kO kS ⊢
      go_enter Tryd.func7, Tryd.ntmps7
      go_wp2_with fail
      generalize ((w.alloc (Obj.cells #[Value.int .i64 0, Value.int .i64 0, Value.string ⟨#[]⟩, Value.string ⟨#[]⟩, Value.string ⟨#[]⟩, Value.string ⟨#[]⟩] 25)).alloc (Obj.cells #[Value.string s] 57)).alloc (Obj.cells #[Value.int .i64 0, Value.int .i64 0, Value.string ⟨#[]⟩, Value.string ⟨#[]⟩, Value.string ⟨#[]⟩, Value.string ⟨#[]⟩] 25) = v0 at *
      refine (k0 _ HS0.out.2.1).mono ?_
      rintro e w0 ⟨rfl, rfl⟩
      have HT0 : Hid (RS w (v0.setCell ⟨w.heap.size + 1, 0, none⟩ (.string s1)) s1 ⟨0, 0, ⟨#[]⟩, ⟨#[]⟩, ⟨#[]⟩, ⟨#[]⟩⟩) := HS0.out.grown (grown_set (grown_refl _ _) _) (HS0.out.2.1.put _)
      generalize v0.setCell ⟨w.heap.size + 1, 0, none⟩ (.string s1) = u0 at *
      clear HS0
      obtain ⟨⟨x0, x1, x2, x3, x4, x5⟩, ff⟩ := HT0.out.2.2.1
      unfold Frz at ff
      simp only at x0 x1 x2 x3 x4 x5
      have HS1 : Hid (RS w (u0.setCell ⟨w.heap.size + 1 + 1, 0, none⟩ (.int .i64 X0)) s1 ⟨X0, 0, ⟨#[]⟩, ⟨#[]⟩, ⟨#[]⟩, ⟨#[]⟩⟩) := HT0.out.set0 _
      go_wp2_with fail
      clear x0 x1 x2 x3 x4 x5 ff
      clear HT0
      generalize u0.setCell ⟨w.heap.size + 1 + 1, 0, none⟩ (.int .i64 X0) = v1 at *
      refine (k1 _ HS1.out.2.1).mono ?_
      rintro e w1 ⟨rfl, rfl⟩
      have HT1 : Hid (RS w (v1.setCell ⟨w.heap.size + 1, 0, none⟩ (.string s2)) s2 ⟨X0, 0, ⟨#[]⟩, ⟨#[]⟩, ⟨#[]⟩, ⟨#[]⟩⟩) := HS1.out.grown (grown_set (grown_refl _ _) _) (HS1.out.2.1.put _)
      generalize v1.setCell ⟨w.heap.size + 1, 0, none⟩ (.string s2) = u1 at *
      clear HS1
      obtain ⟨⟨x0, x1, x2, x3, x4, x5⟩, ff⟩ := HT1.out.2.2.1
      unfold Frz at ff
      simp only at x0 x1 x2 x3 x4 x5
      have HS2 : Hid (RS w (u1.setCell ⟨w.heap.size + 1 + 1, 1, none⟩ (.int .i64 X1)) s2 ⟨X0, X1, ⟨#[]⟩, ⟨#[]⟩, ⟨#[]⟩, ⟨#[]⟩⟩) := HT1.out.set1 _
      go_wp2_with fail
      clear x0 x1 x2 x3 x4 x5 ff
      clear HT1
      generalize u1.setCell ⟨w.heap.size + 1 + 1, 1, none⟩ (.int .i64 X1) = v2 at *
      refine (k2 _ HS2.out.2.1).mono ?_
      rintro e u2 ⟨rfl, hr, hg⟩
      have HT2 : Hid (RS w u2 s3 ⟨X0, X1, ⟨#[]⟩, ⟨#[]⟩, ⟨#[]⟩, ⟨#[]⟩⟩) := HS2.out.grown hg hr
      clear hr hg
      clear HS2
      obtain ⟨⟨x0, x1, x2, x3, x4, x5⟩, ff⟩ := HT2.out.2.2.1
      unfold Frz at ff
      simp only at x0 x1 x2 x3 x4 x5
      have HS3 : Hid (RS w (u2.setCell ⟨w.heap.size + 1 + 1, 2, none⟩ (.string A1)) s3 ⟨X0, X1, A1, ⟨#[]⟩, ⟨#[]⟩, ⟨#[]⟩⟩) := HT2.out.set2 _
      go_wp2_with fail
      clear x0 x1 x2 x3 x4 x5 ff
      clear HT2
      generalize u2.setCell ⟨w.heap.size + 1 + 1, 2, none⟩ (.string A1) = v3 at *
      refine (k3 _ HS3.out.2.1).mono ?_
      rintro e u3 ⟨rfl, hr, hg⟩
      have HT3 : Hid (RS w u3 s4 ⟨X0, X1, A1, ⟨#[]⟩, ⟨#[]⟩, ⟨#[]⟩⟩) := HS3.out.grown hg hr
      clear hr hg
      clear HS3
      obtain ⟨⟨x0, x1, x2, x3, x4, x5⟩, ff⟩ := HT3.out.2.2.1
      unfold Frz at ff
      simp only at x0 x1 x2 x3 x4 x5
      have HS4 : Hid (RS w (u3.setCell ⟨w.heap.size + 1 + 1, 3, none⟩ (.string V1)) s4 ⟨X0, X1, A1, V1, ⟨#[]⟩, ⟨#[]⟩⟩) := HT3.out.set3 _
      go_wp2_with fail
      clear x0 x1 x2 x3 x4 x5 ff
      clear HT3
      generalize u3.setCell ⟨w.heap.size + 1 + 1, 3, none⟩ (.string V1) = v4 at *
      refine (k4 _ HS4.out.2.1).mono ?_
      rintro e u4 ⟨rfl, hr, hg⟩
      have HT4 : Hid (RS w u4 s5 ⟨X0, X1, A1, V1, ⟨#[]⟩, ⟨#[]⟩⟩) := HS4.out.grown hg hr
      clear hr hg
      clear HS4
      obtain ⟨⟨x0, x1, x2, x3, x4, x5⟩, ff⟩ := HT4.out.2.2.1
      unfold Frz at ff
      simp only at x0 x1 x2 x3 x4 x5
      have HS5 : Hid (RS w (u4.setCell ⟨w.heap.size + 1 + 1, 4, none⟩ (.string N1)) s5 ⟨X0, X1, A1, V1, N1, ⟨#[]⟩⟩) := HT4.out.set4 _
      go_wp2_with fail
      clear x0 x1 x2 x3 x4 x5 ff
      clear HT4
      generalize u4.setCell ⟨w.heap.size + 1 + 1, 4, none⟩ (.string N1) = v5 at *
      refine (k5 _ HS5.out.2.1).mono ?_
      rintro e u5 ⟨rfl, hr, hg⟩
      have HT5 : Hid (RS w u5 s6 ⟨X0, X1, A1, V1, N1, ⟨#[]⟩⟩) := HS5.out.grown hg hr
      clear hr hg
      clear HS5
      obtain ⟨⟨x0, x1, x2, x3, x4, x5⟩, ff⟩ := HT5.out.2.2.1
      unfold Frz at ff
      simp only at x0 x1 x2 x3 x4 x5
      have HS6 : Hid (RS w (u5.setCell ⟨w.heap.size + 1 + 1, 5, none⟩ (.string D1)) s6 ⟨X0, X1, A1, V1, N1, D1⟩) := HT5.out.set5 _
      go_wp2_with fail
      clear x0 x1 x2 x3 x4 x5 ff HT5
      generalize u5.setCell ⟨w.heap.size + 1 + 1, 5, none⟩ (.string D1) = v6 at *
      refine (kO _).mono ?_
      rintro e v7 ⟨rfl, b7⟩
      have HS7 : Hid (RS w v7 s6 ⟨X0, X1, A1, V1, N1, D1⟩) := HS6.out.below b7
      clear b7 HS6
      obtain ⟨⟨x0, x1, x2, x3, x4, x5⟩, _⟩ := HS7.out.2.2.1
      simp only at x0 x1 x2 x3 x4 x5
      go_wp2_with fail
      refine (kS _).mono ?_
      rintro e v8 ⟨rfl, b8⟩
      have HS8 : Hid (RS w v8 s6 ⟨X0, X1, A1, V1, N1, D1⟩) := HS7.out.below b8
      clear b8 HS7 x0 x1 x2 x3 x4 x5
      obtain ⟨⟨x0, x1, x2, x3, x4, x5⟩, ff⟩ := HS8.out.1
      unfold Frz at ff
      simp only [zH] at x0 x1 x2 x3 x4 x5
      have HZ : Hid (Six (put6 v8 w.heap.size ⟨0, 0, ⟨#[]⟩, ⟨#[]⟩, ⟨#[]⟩, ⟨#[]⟩⟩) w.heap.size ⟨0, 0, ⟨#[]⟩, ⟨#[]⟩, ⟨#[]⟩, ⟨#[]⟩⟩) := put6_six HS8.out.1.1
      have HB2 : Hid (Below w.heap.size w (put6 v8 w.heap.size ⟨0, 0, ⟨#[]⟩, ⟨#[]⟩, ⟨#[]⟩, ⟨#[]⟩⟩)) := put6_below _ HS8.out.2.2.2 (Nat.le_refl _)
      go_wp2
      clear x0 x1 x2 x3 x4 x5
      obtain ⟨y0, y1, y2, y3, y4, y5⟩ := HZ.out
      unfold put6 at y0 y1 y2 y3 y4 y5
      simp only at y0 y1 y2 y3 y4 y5
      refine bodyPost_ret (v := .tuple #[.agg #[.int .i64 0, .int .i64 0, .string ⟨#[]⟩, .string ⟨#[]⟩, .string ⟨#[]⟩, .string ⟨#[]⟩], .bool false]) ?_ rfl ⟨rfl, HB2.out⟩
      generalize hW : ((((((v8.setCell _ _).setCell _ _).setCell _ _).setCell _ _).setCell _ _).setCell _ _ : World) = W at *
      clear HZ HB2
      simp [results, Tryd.results7, go_sem, y0, y1, y2, y3, y4, y5]
  · rw [Bool.not_eq_true] at hO
    rw [rd_bad (by rw [HY.out]; exact hO)]
    rw [hO] at kO
    clear HY hO kS
    unfold hV zH at *
    simp only at kO ⊢
    go_enter Tryd.func7, Tryd.ntmps7
    go_wp2_with fail
    generalize ((w.alloc (Obj.cells #[Value.int .i64 0, Value.int .i64 0, Value.string ⟨#[]⟩, Value.string ⟨#[]⟩, Value.string ⟨#[]⟩, Value.string ⟨#[]⟩] 25)).alloc (Obj.cells #[Value.string s] 57)).alloc (Obj.cells #[Value.int .i64 0, Value.int .i64 0, Value.string ⟨#[]⟩, Value.string ⟨#[]⟩, Value.string ⟨#[]⟩, Value.string ⟨#[]⟩] 25) = v0 at *
    refine (k0 _ HS0.out.2.1).mono ?_
    rintro e w0 ⟨rfl, rfl⟩
    have HT0 : Hid (RS w (v0.setCell ⟨w.heap.size + 1, 0, none⟩ (.string s1)) s1 ⟨0, 0, ⟨#[]⟩, ⟨#[]⟩, ⟨#[]⟩, ⟨#[]⟩⟩) := HS0.out.grown (grown_set (grown_refl _ _) _) (HS0.out.2.1.put _)
    generalize v0.setCell ⟨w.heap.size + 1, 0, none⟩ (.string s1) = u0 at *
    clear HS0
    obtain ⟨⟨x0, x1, x2, x3, x4, x5⟩, ff⟩ := HT0.out.2.2.1
    unfold Frz at ff
    simp only at x0 x1 x2 x3 x4 x5
    have HS1 : Hid (RS w (u0.setCell ⟨w.heap.size + 1 + 1, 0, none⟩ (.int .i64 X0)) s1 ⟨X0, 0, ⟨#[]⟩, ⟨#[]⟩, ⟨#[]⟩, ⟨#[]⟩⟩) := HT0.out.set0 _
    go_wp2_with fail
    clear x0 x1 x2 x3 x4 x5 ff
    clear HT0
    generalize u0.setCell ⟨w.heap.size + 1 + 1, 0, none⟩ (.int .i64 X0) = v1 at *
    refine (k1 _ HS1.out.2.1).mono ?_
    rintro e w1 ⟨rfl, rfl⟩
    have HT1 : Hid (RS w (v1.setCell ⟨w.heap.size + 1, 0, none⟩ (.string s2)) s2 ⟨X0, 0, ⟨#[]⟩, ⟨#[]⟩, ⟨#[]⟩, ⟨#[]⟩⟩) := HS1.out.grown (grown_set (grown_refl _ _) _) (HS1.out.2.1.put _)
    generalize v1.setCell ⟨w.heap.size + 1, 0, none⟩ (.string s2) = u1 at *
    clear HS1
    obtain ⟨⟨x0, x1, x2, x3, x4, x5⟩, ff⟩ := HT1.out.2.2.1
    unfold Frz at ff
    simp only at x0 x1 x2 x3 x4 x5
    have HS2 : Hid (RS w (u1.setCell ⟨w.heap.size + 1 + 1, 1, none⟩ (.int .i64 X1)) s2 ⟨X0, X1, ⟨#[]⟩, ⟨#[]⟩, ⟨#[]⟩, ⟨#[]⟩⟩) := HT1.out.set1 _
    go_wp2_with fail
    clear x0 x1 x2 x3 x4 x5 ff
    clear HT1
    generalize u1.setCell ⟨w.heap.size + 1 + 1, 1, none⟩ (.int .i64 X1) = v2 at *
    refine (k2 _ HS2.out.2.1).mono ?_
    rintro e u2 ⟨rfl, hr, hg⟩
    have HT2 : Hid (RS w u2 s3 ⟨X0, X1, ⟨#[]⟩, ⟨#[]⟩, ⟨#[]⟩, ⟨#[]⟩⟩) := HS2.out.grown hg hr
    clear hr hg
    clear HS2
    obtain ⟨⟨x0, x1, x2, x3, x4, x5⟩, ff⟩ := HT2.out.2.2.1
    unfold Frz at ff
    simp only at x0 x1 x2 x3 x4 x5
    have HS3 : Hid (RS w (u2.setCell ⟨w.heap.size + 1 + 1, 2, none⟩ (.string A1)) s3 ⟨X0, X1, A1, ⟨#[]⟩, ⟨#[]⟩, ⟨#[]⟩⟩) := HT2.out.set2 _
    go_wp2_with fail
    clear x0 x1 x2 x3 x4 x5 ff
    clear HT2
    generalize u2.setCell ⟨w.heap.size + 1 + 1, 2, none⟩ (.string A1) = v3 at *
    refine (k3 _ HS3.out.2.1).mono ?_
    rintro e u3 ⟨rfl, hr, hg⟩
    have HT3 : Hid (RS w u3 s4 ⟨X0, X1, A1, ⟨#[]⟩, ⟨#[]⟩, ⟨#[]⟩⟩) := HS3.out.grown hg hr
    clear hr hg
    clear HS3
    obtain ⟨⟨x0, x1, x2, x3, x4, x5⟩, ff⟩ := HT3.out.2.2.1
    unfold Frz at ff
    simp only at x0 x1 x2 x3 x4 x5
    have HS4 : Hid (RS w (u3.setCell ⟨w.heap.size + 1 + 1, 3, none⟩ (.string V1)) s4 ⟨X0, X1, A1, V1, ⟨#[]⟩, ⟨#[]⟩⟩) := HT3.out.set3 _
    go_wp2_with fail
    clear x0 x1 x2 x3 x4 x5 ff
    clear HT3
    generalize u3.setCell ⟨w.heap.size + 1 + 1, 3, none⟩ (.string V1) = v4 at *
    refine (k4 _ HS4.out.2.1).mono ?_
    rintro e u4 ⟨rfl, hr, hg⟩
    have HT4 : Hid (RS w u4 s5 ⟨X0, X1, A1, V1, ⟨#[]⟩, ⟨#[]⟩⟩) := HS4.out.grown hg hr
    clear hr hg
    clear HS4
    obtain ⟨⟨x0, x1, x2, x3, x4, x5⟩, ff⟩ := HT4.out.2.2.1
    unfold Frz at ff
    simp only at x0 x1 x2 x3 x4 x5
    have HS5 : Hid (RS w (u4.setCell ⟨w.heap.size + 1 + 1, 4, none⟩ (.string N1)) s5 ⟨X0, X1, A1, V1, N1, ⟨#[]⟩⟩) := HT4.out.set4 _
    go_wp2_with fail
    clear x0 x1 x2 x3 x4 x5 ff
    clear HT4
    generalize u4.setCell ⟨w.heap.size + 1 + 1, 4, none⟩ (.string N1) = v5 at *
    refine (k5 _ HS5.out.2.1).mono ?_
    rintro e u5 ⟨rfl, hr, hg⟩
    have HT5 : Hid (RS w u5 s6 ⟨X0, X1, A1, V1, N1, ⟨#[]⟩⟩) := HS5.out.grown hg hr
    clear hr hg
    clear HS5
    obtain ⟨⟨x0, x1, x2, x3, x4, x5⟩, ff⟩ := HT5.out.2.2.1
    unfold Frz at ff
    simp only at x0 x1 x2 x3 x4 x5
    have HS6 : Hid (RS w (u5.setCell ⟨w.heap.size + 1 + 1, 5, none⟩ (.string D1)) s6 ⟨X0, X1, A1, V1, N1, D1⟩) := HT5.out.set5 _
    go_wp2_with fail
    clear x0 x1 x2 x3 x4 x5 ff HT5
    generalize u5.setCell ⟨w.heap.size + 1 + 1, 5, none⟩ (.string D1) = v6 at *
    refine (kO _).mono ?_
    rintro e v7 ⟨rfl, b7⟩
    have HS7 : Hid (RS w v7 s6 ⟨X0, X1, A1, V1, N1, D1⟩) := HS6.out.below b7
    clear b7 HS6
    obtain ⟨⟨x0, x1, x2, x3, x4, x5⟩, ff⟩ := HS7.out.1
    unfold Frz at ff
    simp only [zH] at x0 x1 x2 x3 x4 x5
    have HZ : Hid (Six (put6 v7 w.heap.size ⟨0, 0, ⟨#[]⟩, ⟨#[]⟩, ⟨#[]⟩, ⟨#[]⟩⟩) w.heap.size ⟨0, 0, ⟨#[]⟩, ⟨#[]⟩, ⟨#[]⟩, ⟨#[]⟩⟩) := put6_six HS7.out.1.1
    have HB2 : Hid (Below w.heap.size w (put6 v7 w.heap.size ⟨0, 0, ⟨#[]⟩, ⟨#[]⟩, ⟨#[]⟩, ⟨#[]⟩⟩)) := put6_below _ HS7.out.2.2.2 (Nat.le_refl _)
    go_wp2
    clear x0 x1 x2 x3 x4 x5
    obtain ⟨y0, y1, y2, y3, y4, y5⟩ := HZ.out
    unfold put6 at y0 y1 y2 y3 y4 y5
    simp only at y0 y1 y2 y3 y4 y5
    refine bodyPost_ret (v := .tuple #[.agg #[.int .i64 0, .int .i64 0, .string ⟨#[]⟩, .string ⟨#[]⟩, .string ⟨#[]⟩, .string ⟨#[]⟩], .bool false]) ?_ rfl ⟨rfl, HB2.out⟩
    generalize hW : ((((((v7.setCell _ _).setCell _ _).setCell _ _).setCell _ _).setCell _ _).setCell _ _ : World) = W at *
    clear HZ HB2
    simp [results, Tryd.results7, go_sem, y0, y1, y2, y3, y4, y5]
end Go.Proofs.YtbpmjejmeaifbaaDoor
