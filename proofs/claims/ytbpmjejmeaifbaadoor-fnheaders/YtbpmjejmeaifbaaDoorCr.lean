/- What spec.ReadCommit answers; old memory stays. Conditions: texts of at most 2 to the 20 bytes. -/
import Derived.Test.YtbpmjejmeaifbaaDoorCo
import Derived.Test.YtbpmjejmeaifbaaDoorTk
import Derived.Test.YtbpmjejmeaifbaaDoorCp
import Derived.Test.YtbpmjejmeaifbaaDoorIw
import Derived.Deep.RegionLaw
namespace Go.Proofs.YtbpmjejmeaifbaaDoor
open Go.RowKit
open Num
set_option linter.unusedVariables false
def cQ (y : Ct) (q : Value) : Value := .agg #[.int .i64 y.h, .int .i64 y.r, .string y.i, q]
theorem toList_inj {a b : ByteArray} (h : a.toList = b.toList) : a = b := by
  rw [Go.ByteArray.toList_eq, Go.ByteArray.toList_eq] at h
  exact ByteArray.ext (Array.ext' h)
theorem own_setS {w : World} {B B' g j : Nat} {u v : Value} {l : List Sg} (h : OwnS w B v l) (hB : B' ≤ B) (hg : g < B) : OwnS (w.setCell ⟨g, j, none⟩ u) B' v l := own_less (ownsRow_setCell_below h hg _) hB
set_option maxHeartbeats 3200000 in
set_option maxRecDepth 100000 in
theorem spec_readC (s : ByteArray) (w : World) (hs : s.size ≤ 1048576) :
    Calls Tryd.prog 15 #[.string s] w fun e w' => ∃ q, e = .returned (.tuple #[cQ (rdC s).1 q, .bool (rdC s).2]) ∧ OwnS w' w.heap.size q (rdC s).1.l ∧ Below w.heap.size w w' := by
  obtain ⟨i0, hinf, hz0, hz1, hz2⟩ := infoSf
  have HR0 : Hid (Blk (w.alloc (.cells [.int .i64 0, .int .i64 0, .string ⟨#[]⟩, .slice none 0 0].toArray 33)) w.heap.size [.int .i64 0, .int .i64 0, .string ⟨#[]⟩, .slice none 0 0] 33) := blk_new w _ _
  have HB0 : Hid (Below w.heap.size w (w.alloc (.cells [.int .i64 0, .int .i64 0, .string ⟨#[]⟩, .slice none 0 0].toArray 33))) := below_one _ _
  have hz : w.heap.size < (w.alloc (.cells [.int .i64 0, .int .i64 0, .string ⟨#[]⟩, .slice none 0 0].toArray 33)).heap.size := by simp
  have kV := fun W => spec_vars s 0 2 W (by omega) (by omega) (by omega)
  rcases hv : vL s 0 2 with _ | ⟨xs, b⟩
  · rw [spC_none1 hv]
    have HV : Hid (vL s 0 2 = none) := hv
    clear hv
    unfold cQ zC
    simp only
    go_enter Tryd.func15, Tryd.ntmps15
    go_wp2_with fail
    generalize w.alloc (Obj.cells #[Value.int .i64 0, Value.int .i64 0, Value.string ⟨#[]⟩, Value.slice none 0 0] 33) = w0 at *
    refine (kV _).mono ?_
    rintro e w1 ⟨v1, r1, rfl, h1, b1⟩
    obtain rfl : r1 = -1 := by
      rcases h1.out with ⟨_, h⟩ | ⟨xs, b, h, _, _⟩
      · exact h
      · rw [HV.out] at h; cases h
    clear h1
    have HR1 : Hid (Blk w1 w.heap.size [.int .i64 0, .int .i64 0, .string ⟨#[]⟩, .slice none 0 0] 33) := HR0.out.below b1 hz
    have HB1 : Hid (Below w.heap.size w w1) := HB0.out.trans (b1.mono HB0.out.size)
    clear b1
    have x0 := HR1.out.cell 0 rfl
    have x1 := HR1.out.cell 1 rfl
    have x2 := HR1.out.cell 2 rfl
    have x3 := HR1.out.cell 3 rfl
    have f0 := HR1.out.frozen 0
    have f1 := HR1.out.frozen 1
    have f2 := HR1.out.frozen 2
    have f3 := HR1.out.frozen 3
    have HZ : Hid (Blk ((((w1.setCell ⟨w.heap.size, 0, none⟩ (.int .i64 0)).setCell ⟨w.heap.size, 1, none⟩ (.int .i64 0)).setCell ⟨w.heap.size, 2, none⟩ (.string ⟨#[]⟩)).setCell ⟨w.heap.size, 3, none⟩ (.slice none 0 0)) w.heap.size [.int .i64 0, .int .i64 0, .string ⟨#[]⟩, .slice none 0 0] 33) := (((HR1.out.set 0 _).set 1 _).set 2 _).set 3 _
    have HBz : Hid (Below w.heap.size w ((((w1.setCell ⟨w.heap.size, 0, none⟩ (.int .i64 0)).setCell ⟨w.heap.size, 1, none⟩ (.int .i64 0)).setCell ⟨w.heap.size, 2, none⟩ (.string ⟨#[]⟩)).setCell ⟨w.heap.size, 3, none⟩ (.slice none 0 0))) := (((HB1.out.setCell (Nat.le_refl _) _).setCell (Nat.le_refl _) _).setCell (Nat.le_refl _) _).setCell (Nat.le_refl _) _
    have HOz : Hid (OwnS ((((w1.setCell ⟨w.heap.size, 0, none⟩ (.int .i64 0)).setCell ⟨w.heap.size, 1, none⟩ (.int .i64 0)).setCell ⟨w.heap.size, 2, none⟩ (.string ⟨#[]⟩)).setCell ⟨w.heap.size, 3, none⟩ (.slice none 0 0)) w.heap.size (.slice none 0 0) []) := OwnS.nil _ _
    go_wp2
    clear x0 x1 x2 x3 f0 f1 f2 f3 
    have y0 := HZ.out.cell 0 rfl
    have y1 := HZ.out.cell 1 rfl
    have y2 := HZ.out.cell 2 rfl
    have y3 := HZ.out.cell 3 rfl
    refine bodyPost_ret (v := .tuple #[.agg #[.int .i64 0, .int .i64 0, .string ⟨#[]⟩, .slice none 0 0], .bool false]) ?_ rfl ?_
    · generalize hW : ((((w1.setCell _ _).setCell _ _).setCell _ _).setCell _ _ : World) = W at *
      clear HZ HBz HOz
      simp [results, Tryd.results15, go_sem, y0, y1, y2, y3]
    · exact ⟨_, rfl, HOz.out, HBz.out⟩
  obtain ⟨hx1, hx2, _⟩ := vL_two hv
  obtain ⟨X0, hX0⟩ : ∃ x, (rvAt s 0).1 = x := ⟨_, rfl⟩
  obtain ⟨X1, hX1⟩ : ∃ x, (rvAt s (rvAt s 0).2).1 = x := ⟨_, rfl⟩
  rw [hX0, hX1] at hx1
  subst hx1
  have hbs := (vL_len (Nat.zero_le _) hv).2
  clear hX0 hX1 hx2
  have HV : Hid (∀ (v1 : Value) (r1 : Int) (B : Nat) (w1 : World), Hid ((vL s 0 2 = none ∧ r1 = -1) ∨ ∃ (xs : List Int) (b : Nat), vL s 0 2 = some (xs, b) ∧ r1 = (b : Int) ∧ OwnI w1 B v1 xs) → r1 = (b : Int) ∧ ∃ g cap, v1 = .slice (some ⟨g, 0, none⟩) 2 cap ∧ w1.cell? ⟨g, 0, none⟩ = some (.int .i64 X0) ∧ w1.cell? ⟨g, 1, none⟩ = some (.int .i64 X1)) := fun v1 r1 B w1 h => by
    rcases h.out with ⟨h, _⟩ | ⟨xs', b', h, hb, ho⟩
    · rw [hv] at h; cases h
    · rw [hv] at h
      simp only [Option.some.injEq, Prod.mk.injEq] at h
      obtain ⟨rfl, rfl⟩ := h
      obtain ⟨g, cap, rfl, hI⟩ := ho.at (by simp)
      exact ⟨hb, g, cap, rfl, by simpa using hI 0 (by simp), by simpa using hI 1 (by simp)⟩
  have hb0 : ¬ (b : Int) < 0 := by omega
  have k0 := fun W => spec_take s (b : Int) W (by omega) (by omega)
  have hq1 := tk_bound s (b : Int)
  obtain ⟨⟨I, t1⟩, e1⟩ : ∃ r, tk s (b : Int) = r := ⟨_, rfl⟩
  rw [e1] at k0 hq1
  simp only at k0 hq1
  by_cases ht1 : t1 < 0
  · rw [spC_none2 hv (by rw [e1]; exact ht1)]
    have kN := fun W => spec_vars_neg s t1 1 W ht1 (by decide)
    clear hv e1 hq1
    unfold cQ zC
    simp only
    go_enter Tryd.func15, Tryd.ntmps15
    go_wp2_with fail
    generalize w.alloc (Obj.cells #[Value.int .i64 0, Value.int .i64 0, Value.string ⟨#[]⟩, Value.slice none 0 0] 33) = w0 at *
    refine (kV _).mono ?_
    rintro e w1 ⟨v1, r1, rfl, h1, b1⟩
    obtain ⟨rfl, g, cap, rfl, l0, l1⟩ := HV.out _ _ _ _ h1
    clear h1 l0 l1
    go_wp2_with fail
    refine (k0 _).mono ?_
    rintro e w2 ⟨rfl, b2⟩
    go_wp2_with fail
    refine (kN _).mono ?_
    rintro e w3 ⟨v3, rfl, b3⟩
    have HC : Hid (Below w0.heap.size w0 w3) := (b1.trans (b2.mono b1.size)).trans (b3.mono (b1.trans (b2.mono b1.size)).size)
    have HR1 : Hid (Blk w3 w.heap.size [.int .i64 0, .int .i64 0, .string ⟨#[]⟩, .slice none 0 0] 33) := HR0.out.below HC.out hz
    have HB1 : Hid (Below w.heap.size w w3) := HB0.out.trans (HC.out.mono HB0.out.size)
    clear b1 b2 b3 HC
    have x0 := HR1.out.cell 0 rfl
    have x1 := HR1.out.cell 1 rfl
    have x2 := HR1.out.cell 2 rfl
    have x3 := HR1.out.cell 3 rfl
    have f0 := HR1.out.frozen 0
    have f1 := HR1.out.frozen 1
    have f2 := HR1.out.frozen 2
    have f3 := HR1.out.frozen 3
    have HZ : Hid (Blk ((((w3.setCell ⟨w.heap.size, 0, none⟩ (.int .i64 0)).setCell ⟨w.heap.size, 1, none⟩ (.int .i64 0)).setCell ⟨w.heap.size, 2, none⟩ (.string ⟨#[]⟩)).setCell ⟨w.heap.size, 3, none⟩ (.slice none 0 0)) w.heap.size [.int .i64 0, .int .i64 0, .string ⟨#[]⟩, .slice none 0 0] 33) := (((HR1.out.set 0 _).set 1 _).set 2 _).set 3 _
    have HBz : Hid (Below w.heap.size w ((((w3.setCell ⟨w.heap.size, 0, none⟩ (.int .i64 0)).setCell ⟨w.heap.size, 1, none⟩ (.int .i64 0)).setCell ⟨w.heap.size, 2, none⟩ (.string ⟨#[]⟩)).setCell ⟨w.heap.size, 3, none⟩ (.slice none 0 0))) := (((HB1.out.setCell (Nat.le_refl _) _).setCell (Nat.le_refl _) _).setCell (Nat.le_refl _) _).setCell (Nat.le_refl _) _
    have HOz : Hid (OwnS ((((w3.setCell ⟨w.heap.size, 0, none⟩ (.int .i64 0)).setCell ⟨w.heap.size, 1, none⟩ (.int .i64 0)).setCell ⟨w.heap.size, 2, none⟩ (.string ⟨#[]⟩)).setCell ⟨w.heap.size, 3, none⟩ (.slice none 0 0)) w.heap.size (.slice none 0 0) []) := OwnS.nil _ _
    go_wp2
    clear x0 x1 x2 x3 f0 f1 f2 f3 
    have y0 := HZ.out.cell 0 rfl
    have y1 := HZ.out.cell 1 rfl
    have y2 := HZ.out.cell 2 rfl
    have y3 := HZ.out.cell 3 rfl
    refine bodyPost_ret (v := .tuple #[.agg #[.int .i64 0, .int .i64 0, .string ⟨#[]⟩, .slice none 0 0], .bool false]) ?_ rfl ?_
    · generalize hW : ((((w3.setCell _ _).setCell _ _).setCell _ _).setCell _ _ : World) = W at *
      clear HZ HBz HOz
      simp [results, Tryd.results15, go_sem, y0, y1, y2, y3]
    · exact ⟨_, rfl, HOz.out, HBz.out⟩
  obtain ⟨b2, rfl⟩ : ∃ b2 : Nat, t1 = (b2 : Int) := ⟨t1.toNat, by omega⟩
  have hb2s : b2 ≤ s.size := by omega
  have hIs : I.size ≤ s.size := hq1.2
  have ht2 : (tk s (b : Int)).2 = (b2 : Int) := by rw [e1]
  have kW := fun W => spec_vars s b2 1 W (by omega) hb2s (by omega)
  rcases hv2 : vL s b2 1 with _ | ⟨ys, b3⟩
  · rw [spC_none3 hv ht2 hv2]
    have HW : Hid (vL s b2 1 = none) := hv2
    clear hv hv2 e1 hq1 ht2
    unfold cQ zC
    simp only
    go_enter Tryd.func15, Tryd.ntmps15
    go_wp2_with fail
    generalize w.alloc (Obj.cells #[Value.int .i64 0, Value.int .i64 0, Value.string ⟨#[]⟩, Value.slice none 0 0] 33) = w0 at *
    refine (kV _).mono ?_
    rintro e w1 ⟨v1, r1, rfl, h1, b1⟩
    obtain ⟨rfl, g, cap, rfl, l0, l1⟩ := HV.out _ _ _ _ h1
    clear h1 l0 l1
    go_wp2_with fail
    refine (k0 _).mono ?_
    rintro e w2 ⟨rfl, c2⟩
    go_wp2_with fail
    refine (kW _).mono ?_
    rintro e w3 ⟨v3, r3, rfl, h3, c3⟩
    obtain rfl : r3 = -1 := by
      rcases h3.out with ⟨_, h⟩ | ⟨xs, b, h, _, _⟩
      · exact h
      · rw [HW.out] at h; cases h
    clear h3
    have HC : Hid (Below w0.heap.size w0 w3) := (b1.trans (c2.mono b1.size)).trans (c3.mono (b1.trans (c2.mono b1.size)).size)
    have HR1 : Hid (Blk w3 w.heap.size [.int .i64 0, .int .i64 0, .string ⟨#[]⟩, .slice none 0 0] 33) := HR0.out.below HC.out hz
    have HB1 : Hid (Below w.heap.size w w3) := HB0.out.trans (HC.out.mono HB0.out.size)
    clear b1 c2 c3 HC
    have x0 := HR1.out.cell 0 rfl
    have x1 := HR1.out.cell 1 rfl
    have x2 := HR1.out.cell 2 rfl
    have x3 := HR1.out.cell 3 rfl
    have f0 := HR1.out.frozen 0
    have f1 := HR1.out.frozen 1
    have f2 := HR1.out.frozen 2
    have f3 := HR1.out.frozen 3
    have HZ : Hid (Blk ((((w3.setCell ⟨w.heap.size, 0, none⟩ (.int .i64 0)).setCell ⟨w.heap.size, 1, none⟩ (.int .i64 0)).setCell ⟨w.heap.size, 2, none⟩ (.string ⟨#[]⟩)).setCell ⟨w.heap.size, 3, none⟩ (.slice none 0 0)) w.heap.size [.int .i64 0, .int .i64 0, .string ⟨#[]⟩, .slice none 0 0] 33) := (((HR1.out.set 0 _).set 1 _).set 2 _).set 3 _
    have HBz : Hid (Below w.heap.size w ((((w3.setCell ⟨w.heap.size, 0, none⟩ (.int .i64 0)).setCell ⟨w.heap.size, 1, none⟩ (.int .i64 0)).setCell ⟨w.heap.size, 2, none⟩ (.string ⟨#[]⟩)).setCell ⟨w.heap.size, 3, none⟩ (.slice none 0 0))) := (((HB1.out.setCell (Nat.le_refl _) _).setCell (Nat.le_refl _) _).setCell (Nat.le_refl _) _).setCell (Nat.le_refl _) _
    have HOz : Hid (OwnS ((((w3.setCell ⟨w.heap.size, 0, none⟩ (.int .i64 0)).setCell ⟨w.heap.size, 1, none⟩ (.int .i64 0)).setCell ⟨w.heap.size, 2, none⟩ (.string ⟨#[]⟩)).setCell ⟨w.heap.size, 3, none⟩ (.slice none 0 0)) w.heap.size (.slice none 0 0) []) := OwnS.nil _ _
    go_wp2
    clear x0 x1 x2 x3 f0 f1 f2 f3 
    have y0 := HZ.out.cell 0 rfl
    have y1 := HZ.out.cell 1 rfl
    have y2 := HZ.out.cell 2 rfl
    have y3 := HZ.out.cell 3 rfl
    refine bodyPost_ret (v := .tuple #[.agg #[.int .i64 0, .int .i64 0, .string ⟨#[]⟩, .slice none 0 0], .bool false]) ?_ rfl ?_
    · generalize hW : ((((w3.setCell _ _).setCell _ _).setCell _ _).setCell _ _ : World) = W at *
      clear HZ HBz HOz
      simp [results, Tryd.results15, go_sem, y0, y1, y2, y3]
    · exact ⟨_, rfl, HOz.out, HBz.out⟩
  obtain ⟨hy1, hy2, _⟩ := vL_one_some hv2
  have hnb := rvAt_bound s b2
  obtain ⟨N, hN⟩ : ∃ x, (rvAt s b2).1 = x := ⟨_, rfl⟩
  rw [hN] at hy1 hnb
  obtain ⟨n, rfl⟩ : ∃ n : Nat, N = (n : Int) := ⟨N.toNat, by omega⟩
  subst hy1
  have hb3s := (vL_len hb2s hv2).2
  clear hN hnb hy2
  have HW : Hid (∀ (v1 : Value) (r1 : Int) (B : Nat) (w1 : World), Hid ((vL s b2 1 = none ∧ r1 = -1) ∨ ∃ (xs : List Int) (b : Nat), vL s b2 1 = some (xs, b) ∧ r1 = (b : Int) ∧ OwnI w1 B v1 xs) → r1 = (b3 : Int) ∧ ∃ g cap, v1 = .slice (some ⟨g, 0, none⟩) 1 cap ∧ w1.cell? ⟨g, 0, none⟩ = some (.int .i64 (n : Int))) := fun v1 r1 B w1 h => by
    rcases h.out with ⟨h, _⟩ | ⟨xs', b', h, hb, ho⟩
    · rw [hv2] at h; cases h
    · rw [hv2] at h
      simp only [Option.some.injEq, Prod.mk.injEq] at h
      obtain ⟨rfl, rfl⟩ := h
      obtain ⟨g, cap, rfl, hI⟩ := ho.at (by simp)
      exact ⟨hb, g, cap, rfl, by simpa using hI 0 (by simp)⟩
  have hb30 : ¬ (b3 : Int) < 0 := by omega
  have START : True := trivial
  by_cases hn12 : (12 : Int) < (n : Int)
  · rw [spC_many hv ht2 hv2 hn12]
    clear hv hv2 e1 hq1 ht2
    unfold cQ zC
    simp only
    go_enter Tryd.func15, Tryd.ntmps15
    go_wp2_with fail
    generalize w.alloc (Obj.cells #[Value.int .i64 0, Value.int .i64 0, Value.string ⟨#[]⟩, Value.slice none 0 0] 33) = w0 at *
    refine (kV _).mono ?_
    rintro e w1 ⟨v1, r1, rfl, h1, b1⟩
    obtain ⟨rfl, g, cap, rfl, l0, l1⟩ := HV.out _ _ _ _ h1
    clear h1 l0 l1
    go_wp2_with fail
    refine (k0 _).mono ?_
    rintro e w2 ⟨rfl, c2⟩
    go_wp2_with fail
    refine (kW _).mono ?_
    rintro e w3 ⟨v3, r3, rfl, h3, c3⟩
    obtain ⟨rfl, g3, cap3, rfl, l3⟩ := HW.out _ _ _ _ h3
    clear h3
    have HC : Hid (Below w0.heap.size w0 w3) := (b1.trans (c2.mono b1.size)).trans (c3.mono (b1.trans (c2.mono b1.size)).size)
    have HR1 : Hid (Blk w3 w.heap.size [.int .i64 0, .int .i64 0, .string ⟨#[]⟩, .slice none 0 0] 33) := HR0.out.below HC.out hz
    have HB1 : Hid (Below w.heap.size w w3) := HB0.out.trans (HC.out.mono HB0.out.size)
    clear b1 c2 c3 HC
    have x0 := HR1.out.cell 0 rfl
    have x1 := HR1.out.cell 1 rfl
    have x2 := HR1.out.cell 2 rfl
    have x3 := HR1.out.cell 3 rfl
    have f0 := HR1.out.frozen 0
    have f1 := HR1.out.frozen 1
    have f2 := HR1.out.frozen 2
    have f3 := HR1.out.frozen 3
    have HZ : Hid (Blk ((((w3.setCell ⟨w.heap.size, 0, none⟩ (.int .i64 0)).setCell ⟨w.heap.size, 1, none⟩ (.int .i64 0)).setCell ⟨w.heap.size, 2, none⟩ (.string ⟨#[]⟩)).setCell ⟨w.heap.size, 3, none⟩ (.slice none 0 0)) w.heap.size [.int .i64 0, .int .i64 0, .string ⟨#[]⟩, .slice none 0 0] 33) := (((HR1.out.set 0 _).set 1 _).set 2 _).set 3 _
    have HBz : Hid (Below w.heap.size w ((((w3.setCell ⟨w.heap.size, 0, none⟩ (.int .i64 0)).setCell ⟨w.heap.size, 1, none⟩ (.int .i64 0)).setCell ⟨w.heap.size, 2, none⟩ (.string ⟨#[]⟩)).setCell ⟨w.heap.size, 3, none⟩ (.slice none 0 0))) := (((HB1.out.setCell (Nat.le_refl _) _).setCell (Nat.le_refl _) _).setCell (Nat.le_refl _) _).setCell (Nat.le_refl _) _
    have HOz : Hid (OwnS ((((w3.setCell ⟨w.heap.size, 0, none⟩ (.int .i64 0)).setCell ⟨w.heap.size, 1, none⟩ (.int .i64 0)).setCell ⟨w.heap.size, 2, none⟩ (.string ⟨#[]⟩)).setCell ⟨w.heap.size, 3, none⟩ (.slice none 0 0)) w.heap.size (.slice none 0 0) []) := OwnS.nil _ _
    go_wp2
    clear x0 x1 x2 x3 f0 f1 f2 f3 
    have y0 := HZ.out.cell 0 rfl
    have y1 := HZ.out.cell 1 rfl
    have y2 := HZ.out.cell 2 rfl
    have y3 := HZ.out.cell 3 rfl
    refine bodyPost_ret (v := .tuple #[.agg #[.int .i64 0, .int .i64 0, .string ⟨#[]⟩, .slice none 0 0], .bool false]) ?_ rfl ?_
    · generalize hW : ((((w3.setCell _ _).setCell _ _).setCell _ _).setCell _ _ : World) = W at *
      clear HZ HBz HOz
      simp [results, Tryd.results15, go_sem, y0, y1, y2, y3]
    · exact ⟨_, rfl, HOz.out, HBz.out⟩
  have HGOOD : Hid (∀ l : List Sg, showC ⟨X0, X1, I, l⟩ = s → rdC s = (⟨X0, X1, I, l⟩, true)) := fun l h => spC_good hv h
  have HOTHER : Hid (∀ (l : List Sg) (p : Nat), spG s b3 n = some (l, p) → ¬ showC ⟨X0, X1, I, l⟩ = s → rdC s = (zC, false)) := fun l p h h2 => spC_other hv ht2 hv2 h (by rw [e1]; exact h2)
  have HLESS : Hid (∀ k, k < n → spG s b3 (k + 1) = none → rdC s = (zC, false)) := fun k hk h => spC_less hv ht2 hv2 (by
    have := spG_none h (n - (k + 1))
    rwa [show k + 1 + (n - (k + 1)) = n from by omega] at this)
  obtain ⟨rd, hrd⟩ : ∃ r, rdC s = r := ⟨_, rfl⟩
  rw [hrd] at HGOOD HOTHER HLESS ⊢
  clear hrd hv hv2 e1 hq1 ht2
  go_enter Tryd.func15, Tryd.ntmps15
  go_wp2_with fail
  generalize w.alloc (Obj.cells #[Value.int .i64 0, Value.int .i64 0, Value.string ⟨#[]⟩, Value.slice none 0 0] 33) = w0 at *
  refine (kV _).mono ?_
  rintro e w1 ⟨v1, r1, rfl, h1, b1⟩
  obtain ⟨rfl, g, cap, rfl, l0, l1⟩ := HV.out _ _ _ _ h1
  clear h1
  have hgl : g < w1.heap.size := World.block_lt_of_cell? w1 _ l0
  have HG : Hid (w1.cell? ⟨g, 0, none⟩ = some (.int .i64 X0) ∧ w1.cell? ⟨g, 1, none⟩ = some (.int .i64 X1)) := ⟨l0, l1⟩
  have HC1 : Hid (Below w0.heap.size w0 w1) := b1
  clear b1 l0 l1
  go_wp2_with fail
  refine (k0 _).mono ?_
  rintro e w2 ⟨rfl, c2⟩
  have HD2 : Hid (Below w1.heap.size w1 w2) := c2
  clear c2
  go_wp2_with fail
  refine (kW _).mono ?_
  rintro e w3 ⟨v3, r3, rfl, h3, c3⟩
  obtain ⟨rfl, g3, cap3, rfl, l3⟩ := HW.out _ _ _ _ h3
  clear h3
  have HD3 : Hid (Below w1.heap.size w1 w3) := HD2.out.trans (c3.mono HD2.out.size)
  clear c3 HD2
  have c0 := (HD3.out.cell (p := ⟨g, 0, none⟩) hgl).trans HG.out.1
  have c1 := (HD3.out.cell (p := ⟨g, 1, none⟩) hgl).trans HG.out.2
  have HC3 : Hid (Below w0.heap.size w0 w3) := HC1.out.trans (HD3.out.mono HC1.out.size)
  have hg3 : g < w3.heap.size := World.block_lt_of_cell? w3 _ c0
  have hgn : ¬ g = w3.heap.size := by omega
  have d0 := ((Below.refl w3.heap.size w3).alloc (Nat.le_refl _) (Obj.cells #[Value.int .i64 0, Value.int .i64 0, Value.string ⟨#[]⟩, Value.slice none 0 0] 33)).cell (p := ⟨g, 0, none⟩) hg3
  have d1 := ((Below.refl w3.heap.size w3).alloc (Nat.le_refl _) (Obj.cells #[Value.int .i64 0, Value.int .i64 0, Value.string ⟨#[]⟩, Value.slice none 0 0] 33)).cell (p := ⟨g, 1, none⟩) hg3
  rw [c0] at d0
  rw [c1] at d1
  have HR3 : Hid (Blk w3 w.heap.size [.int .i64 0, .int .i64 0, .string ⟨#[]⟩, .slice none 0 0] 33) := HR0.out.below HC3.out hz
  have HB3 : Hid (Below w.heap.size w w3) := HB0.out.trans (HC3.out.mono HB0.out.size)
  have HN3 : Hid (w3.cell? ⟨g3, 0, none⟩ = some (.int .i64 (n : Int))) := l3
  have hg3l : g3 < w3.heap.size := World.block_lt_of_cell? w3 _ l3
  clear HD3 HC1 HG hgl HC3 HR0 HB0 kV kW k0 HV HW
  go_wp2_with fail
  go_region
  have HY0 : Hid (RC w3 (w3.alloc (.cells #[.int .i64 X0, .int .i64 X1, .string I, .slice none 0 0] 33)).drew w3.heap.size ⟨X0, X1, I, []⟩ (.slice none 0 0)) := ⟨blk_new w3 _ _, OwnS.nil _ _, (below_one _ _).drew⟩
  clear c0 c1 d0 d1 hg3 hgn l3
  generalize (w3.alloc (Obj.cells #[Value.int .i64 X0, Value.int .i64 X1, Value.string I, Value.slice none 0 0] 33)).drew = w4 at *
  go_wp2
  go_loopw [9, 5] (fun iv av wr => ∃ (k p : Nat) (q : Value) (l : List Sg), k ≤ n ∧ iv = .int .i64 k ∧ av = .int .i64 p ∧ Hid (spG s b3 k = some (l, p)) ∧ p ≤ s.size ∧ Hid (RC w3 wr w3.heap.size ⟨X0, X1, I, l⟩ q)) (fun iv _ _ => n - (intOf iv).toNat)
  case atStart => exact ⟨0, b3, _, [], Nat.zero_le _, rfl, rfl, rfl, hb3s, HY0⟩
  case round =>
    obtain ⟨k, p, q, l, hk, rfl, rfl, HS, hp, HY⟩ := hrel
    clear HY0
    have n0 := (HY.out.2.2.cell (p := ⟨g3, 0, none⟩) hg3l).trans HN3.out
    have HRr : Hid (Blk wr w.heap.size [.int .i64 0, .int .i64 0, .string ⟨#[]⟩, .slice none 0 0] 33) := HR3.out.below HY.out.2.2 (by have := HR3.out.lt; omega)
    have HBr : Hid (Below w.heap.size w wr) := HB3.out.trans (HY.out.2.2.mono HB3.out.size)
    have hpn : ¬ (p : Int) < 0 := by omega
    by_cases hlt : k < n
    · have hltz : (k : Int) < (n : Int) := by omega
      have kV := fun W => spec_vars s p 1 W (by omega) hp (by omega)
      rcases hv : vL s p 1 with _ | ⟨xs, e⟩
      · have HV : Hid (vL s p 1 = none) := hv
        have HE : Hid (rd = (zC, false)) := HLESS.out k hlt (spG_no1 HS.out (vL_one_none hv))
        clear hv
        go_wp2_with fail
        refine (kV _).mono ?_
        rintro e w5 ⟨v5, r5, rfl, h5, b5⟩
        obtain rfl : r5 = -1 := by
          rcases h5.out with ⟨_, h⟩ | ⟨xs, b, h, _, _⟩
          · exact h
          · rw [HV.out] at h; cases h
        clear h5
        have HR5 : Hid (Blk w5 w.heap.size [.int .i64 0, .int .i64 0, .string ⟨#[]⟩, .slice none 0 0] 33) := HRr.out.below b5 HRr.out.lt
        have HB5 : Hid (Below w.heap.size w w5) := HBr.out.trans (b5.mono HBr.out.size)
        clear b5
        have x0 := HR5.out.cell 0 rfl
        have x1 := HR5.out.cell 1 rfl
        have x2 := HR5.out.cell 2 rfl
        have x3 := HR5.out.cell 3 rfl
        have f0 := HR5.out.frozen 0
        have f1 := HR5.out.frozen 1
        have f2 := HR5.out.frozen 2
        have f3 := HR5.out.frozen 3
        have HZ : Hid (Blk ((((w5.setCell ⟨w.heap.size, 0, none⟩ (.int .i64 0)).setCell ⟨w.heap.size, 1, none⟩ (.int .i64 0)).setCell ⟨w.heap.size, 2, none⟩ (.string ⟨#[]⟩)).setCell ⟨w.heap.size, 3, none⟩ (.slice none 0 0)) w.heap.size [.int .i64 0, .int .i64 0, .string ⟨#[]⟩, .slice none 0 0] 33) := (((HR5.out.set 0 _).set 1 _).set 2 _).set 3 _
        have HBz : Hid (Below w.heap.size w ((((w5.setCell ⟨w.heap.size, 0, none⟩ (.int .i64 0)).setCell ⟨w.heap.size, 1, none⟩ (.int .i64 0)).setCell ⟨w.heap.size, 2, none⟩ (.string ⟨#[]⟩)).setCell ⟨w.heap.size, 3, none⟩ (.slice none 0 0))) := (((HB5.out.setCell (Nat.le_refl _) _).setCell (Nat.le_refl _) _).setCell (Nat.le_refl _) _).setCell (Nat.le_refl _) _
        have HOz : Hid (OwnS ((((w5.setCell ⟨w.heap.size, 0, none⟩ (.int .i64 0)).setCell ⟨w.heap.size, 1, none⟩ (.int .i64 0)).setCell ⟨w.heap.size, 2, none⟩ (.string ⟨#[]⟩)).setCell ⟨w.heap.size, 3, none⟩ (.slice none 0 0)) w.heap.size (.slice none 0 0) []) := OwnS.nil _ _
        go_wp2
        clear x0 x1 x2 x3 f0 f1 f2 f3 
        have y0 := HZ.out.cell 0 rfl
        have y1 := HZ.out.cell 1 rfl
        have y2 := HZ.out.cell 2 rfl
        have y3 := HZ.out.cell 3 rfl
        refine bodyPost_ret (v := .tuple #[.agg #[.int .i64 0, .int .i64 0, .string ⟨#[]⟩, .slice none 0 0], .bool false]) ?_ rfl ?_
        · generalize hW : ((((w5.setCell _ _).setCell _ _).setCell _ _).setCell _ _ : World) = W at *
          clear HZ HBz HOz
          simp [results, Tryd.results15, go_sem, y0, y1, y2, y3]
        · rw [HE.out]; exact ⟨_, rfl, HOz.out, HBz.out⟩
      obtain ⟨hx1, hx2, hx3⟩ := vL_one_some hv
      have hxb := rvAt_bound s p
      have he := (vL_len hp hv).2
      obtain ⟨⟨X, m⟩, hr⟩ : ∃ r, rvAt s p = r := ⟨_, rfl⟩
      rw [hr] at hx1 hx2 hx3 hxb
      simp only at hx1 hx2 hx3 hxb
      subst hx1 hx2
      have HV : Hid (∀ (v1 : Value) (r1 : Int) (B : Nat) (w1 : World), Hid ((vL s p 1 = none ∧ r1 = -1) ∨ ∃ (xs : List Int) (b : Nat), vL s p 1 = some (xs, b) ∧ r1 = (b : Int) ∧ OwnI w1 B v1 xs) → r1 = ((p + m : Nat) : Int) ∧ ∃ g cap, v1 = .slice (some ⟨g, 0, none⟩) 1 cap ∧ B ≤ g ∧ w1.cell? ⟨g, 0, none⟩ = some (.int .i64 X)) := fun v1 r1 B w1 h => by
        rcases h.out with ⟨h, _⟩ | ⟨xs', b', h, hb, ho⟩
        · rw [hv] at h; cases h
        · rw [hv] at h
          simp only [Option.some.injEq, Prod.mk.injEq] at h
          obtain ⟨rfl, rfl⟩ := h
          obtain ⟨g, cap, rfl, hI⟩ := ho.at (by simp)
          exact ⟨hb, g, cap, rfl, (ho.lt g rfl).1, by simpa using hI 0 (by simp)⟩
      have kT := fun W => spec_take s ((p + m : Nat) : Int) W (by omega) (by omega)
      have hq := tk_bound s ((p + m : Nat) : Int)
      have HGO : Hid (0 ≤ (tk s ((p + m : Nat) : Int)).2 → spG s b3 (k + 1) = some (l ++ [⟨X, (tk s ((p + m : Nat) : Int)).1⟩], (tk s ((p + m : Nat) : Int)).2.toNat)) := fun h => by
        have := spG_go HS.out (by rw [hr]; exact hx3) (by rw [hr]; exact h)
        rw [hr] at this; exact this
      have HNO : Hid ((tk s ((p + m : Nat) : Int)).2 < 0 → spG s b3 (k + 1) = none) := fun h => spG_no2 HS.out (by rw [hr]; exact h)
      obtain ⟨⟨S, t⟩, et⟩ : ∃ r, tk s ((p + m : Nat) : Int) = r := ⟨_, rfl⟩
      rw [et] at kT hq HGO HNO
      simp only at kT hq HGO HNO
      clear hr et hv hx3
      obtain ⟨e, hep⟩ : ∃ e : Nat, p + m = e := ⟨_, rfl⟩
      rw [hep] at HV kT he
      have hen : ¬ (e : Int) < 0 := by omega
      clear hep
      by_cases ht : t < 0
      · have HE : Hid (rd = (zC, false)) := HLESS.out k hlt (HNO.out ht)
        go_wp2_with fail
        refine (kV _).mono ?_
        rintro e w5 ⟨v5, r5, rfl, h5, b5⟩
        obtain ⟨rfl, g5, cap5, rfl, _, l5⟩ := HV.out _ _ _ _ h5
        clear h5 l5
        go_wp2_with fail
        refine (kT _).mono ?_
        rintro e w6 ⟨rfl, b6⟩
        have HD : Hid (Below wr.heap.size wr w6) := b5.trans (b6.mono b5.size)
        have HR5 : Hid (Blk w6 w.heap.size [.int .i64 0, .int .i64 0, .string ⟨#[]⟩, .slice none 0 0] 33) := HRr.out.below HD.out HRr.out.lt
        have HB5 : Hid (Below w.heap.size w w6) := HBr.out.trans (HD.out.mono HBr.out.size)
        clear b5 b6 HD
        have x0 := HR5.out.cell 0 rfl
        have x1 := HR5.out.cell 1 rfl
        have x2 := HR5.out.cell 2 rfl
        have x3 := HR5.out.cell 3 rfl
        have f0 := HR5.out.frozen 0
        have f1 := HR5.out.frozen 1
        have f2 := HR5.out.frozen 2
        have f3 := HR5.out.frozen 3
        have HZ : Hid (Blk ((((w6.setCell ⟨w.heap.size, 0, none⟩ (.int .i64 0)).setCell ⟨w.heap.size, 1, none⟩ (.int .i64 0)).setCell ⟨w.heap.size, 2, none⟩ (.string ⟨#[]⟩)).setCell ⟨w.heap.size, 3, none⟩ (.slice none 0 0)) w.heap.size [.int .i64 0, .int .i64 0, .string ⟨#[]⟩, .slice none 0 0] 33) := (((HR5.out.set 0 _).set 1 _).set 2 _).set 3 _
        have HBz : Hid (Below w.heap.size w ((((w6.setCell ⟨w.heap.size, 0, none⟩ (.int .i64 0)).setCell ⟨w.heap.size, 1, none⟩ (.int .i64 0)).setCell ⟨w.heap.size, 2, none⟩ (.string ⟨#[]⟩)).setCell ⟨w.heap.size, 3, none⟩ (.slice none 0 0))) := (((HB5.out.setCell (Nat.le_refl _) _).setCell (Nat.le_refl _) _).setCell (Nat.le_refl _) _).setCell (Nat.le_refl _) _
        have HOz : Hid (OwnS ((((w6.setCell ⟨w.heap.size, 0, none⟩ (.int .i64 0)).setCell ⟨w.heap.size, 1, none⟩ (.int .i64 0)).setCell ⟨w.heap.size, 2, none⟩ (.string ⟨#[]⟩)).setCell ⟨w.heap.size, 3, none⟩ (.slice none 0 0)) w.heap.size (.slice none 0 0) []) := OwnS.nil _ _
        go_wp2
        clear x0 x1 x2 x3 f0 f1 f2 f3 
        have y0 := HZ.out.cell 0 rfl
        have y1 := HZ.out.cell 1 rfl
        have y2 := HZ.out.cell 2 rfl
        have y3 := HZ.out.cell 3 rfl
        refine bodyPost_ret (v := .tuple #[.agg #[.int .i64 0, .int .i64 0, .string ⟨#[]⟩, .slice none 0 0], .bool false]) ?_ rfl ?_
        · generalize hW : ((((w6.setCell _ _).setCell _ _).setCell _ _).setCell _ _ : World) = W at *
          clear HZ HBz HOz
          simp [results, Tryd.results15, go_sem, y0, y1, y2, y3]
        · rw [HE.out]; exact ⟨_, rfl, HOz.out, HBz.out⟩
      obtain ⟨t', rfl⟩ : ∃ t' : Nat, t = (t' : Int) := ⟨t.toNat, by omega⟩
      have HGO2 : Hid (spG s b3 (k + 1) = some (l ++ [⟨X, S⟩], t')) := by
        have := HGO.out (by omega)
        rwa [Int.toNat_natCast] at this
      have htn : ¬ (t' : Int) < 0 := by omega
      have hts : t' ≤ s.size := by omega
      have hll : l.length ≤ 12 := by have := (spG_len hb3s HS.out).1; omega
      clear HGO HNO
      go_wp2_with fail
      refine (kV _).mono ?_
      rintro e w5 ⟨v5, r5, rfl, h5, b5⟩
      obtain ⟨rfl, g5, cap5, rfl, hg5, l5⟩ := HV.out _ _ _ _ h5
      clear h5
      have HL5 : Hid (w5.cell? ⟨g5, 0, none⟩ = some (.int .i64 X)) := l5
      have hg5l : g5 < w5.heap.size := World.block_lt_of_cell? w5 _ l5
      have HD5 : Hid (Below wr.heap.size wr w5) := b5
      clear b5 l5
      go_wp2_with fail
      refine (kT _).mono ?_
      rintro e w6 ⟨rfl, b6⟩
      have l6 := (b6.cell (p := ⟨g5, 0, none⟩) hg5l).trans HL5.out
      have HD6 : Hid (Below wr.heap.size wr w6) := HD5.out.trans (b6.mono HD5.out.size)
      have HY6 : Hid (RC w3 w6 w3.heap.size ⟨X0, X1, I, l⟩ q) := HY.out.below HD6.out
      have x3 := HY6.out.1.cell 3 rfl
      have f3 := HY6.out.1.frozen 3
      have hg6 : w3.heap.size < w6.heap.size := HY6.out.1.lt
      clear b6 HD5 HL5 n0
      have HO6 : Hid (OwnS (w6.drew.alloc (.cells #[.int .i64 X, .string S] 77)) (w3.heap.size + 1) q l) := own_keep HY6.out.2.1 (below_one _ _).drew
      have HA6 : Hid (Below w6.heap.size w6 (w6.drew.alloc (.cells #[.int .i64 X, .string S] 77))) := (Below.refl _ _).drew.alloc (by simp) _
      have HC6 : Hid (_) := one_sg w6.drew ⟨X, S⟩ w6.heap.size rfl
      obtain ⟨qa, qc, rfl⟩ := own_shape HY6.out.2.1
      go_wp2_with fail
      go_region_law (refine step_append_row (by rfl) _ _ 31 (by rfl) (w3.heap.size + 1) 77 i0 (.agg #[.int .i64 0, .string ⟨#[]⟩]) 2 24 Tryd.underlying31 hinf hz0 hz1 hz2 rfl (by decide) _ _ _ (by rfl) HO6.out ⟨w6.heap.size, 0, none⟩ 1 1 (sgs [⟨X, S⟩]) (by rfl) (by rfl) HC6.out (sgs_one _) (by unfold maxLen; omega) (by omega) (by simp; omega) ?_; intro v7 w7 hown7 hgrow7 _; obtain ⟨a7, c7, rfl⟩ := own_shape hown7; have HX7 : Hid (Blk w7 w3.heap.size [.int .i64 X0, .int .i64 X1, .string I, .slice qa l.length qc] 33) := (HY6.out.1.below HA6.out hg6).grown hgrow7 (fun e => by have := (HY6.out.2.1.lt _ e).1; omega); have x7 := HX7.out.cell 3 rfl; have f7 := HX7.out.frozen 3)
      all_goals
        have HF : Hid (RC w3 (w7.setCell ⟨w3.heap.size, 3, none⟩ (.slice a7 (l.length + 1) c7)) w3.heap.size ⟨X0, X1, I, l ++ [⟨X, S⟩]⟩ (.slice a7 (l.length + 1) c7)) := HY6.out.app HA6.out hgrow7 hown7
        clear x7 f7 x3 f3 hown7 hgrow7 HX7 HC6 HO6 HA6 l6
        go_wp2
        go_roundw
        case rel =>
          have R : ∃ (k' p' : Nat) (q' : Value) (l' : List Sg), k' ≤ n ∧ Value.int .i64 ((k : Int) + 1) = .int .i64 k' ∧ Value.int .i64 (t' : Int) = .int .i64 p' ∧ Hid (spG s b3 k' = some (l', p')) ∧ p' ≤ s.size ∧ Hid (RC w3 (w7.setCell ⟨w3.heap.size, 3, none⟩ (.slice a7 (l.length + 1) c7)) w3.heap.size ⟨X0, X1, I, l'⟩ q') := ⟨k + 1, t', _, _, by omega, by go_num, rfl, HGO2, hts, HF⟩
          first | exact R | exact ⟨k + 1, t', _, _, by omega, by go_num, rfl, HGO2, hts, HF⟩
        case measure => simp [intOf]; omega
    · have hltz : ¬ (k : Int) < (n : Int) := by omega
      have hkn : k = n := by omega
      subst hkn
      have hll := spG_len hb3s HS.out
      have HS2 : Hid (spG s b3 k = some (l, p)) := HS
      obtain ⟨qa, qc, hqe, hqo, _, _⟩ := OwnS.o HY.out.2.1
      subst hqe
      have kS := fun W (h : SO W qa l) => spec_showC ⟨X0, X1, I, l⟩ qa qc W h ⟨by show I.size ≤ _; omega, by show l.length ≤ _; omega, fun y hy => by have := (hll.2.2 y hy).2.2; omega⟩
      have x0 := HY.out.1.cell 0 rfl
      have x1 := HY.out.1.cell 1 rfl
      have x2 := HY.out.1.cell 2 rfl
      have x3 := HY.out.1.cell 3 rfl
      by_cases hF : showC ⟨X0, X1, I, l⟩ = s
      · have HE : Hid (rd = (⟨X0, X1, I, l⟩, true)) := HGOOD.out l hF
        rw [hF] at kS
        have hbq : (s.toList == s.toList) = true := by simp
        clear hF hll
        unfold cV at kS
        simp only at kS
        go_wp2_with fail
        refine (kS _ hqo).mono ?_
        rintro e w8 ⟨rfl, b8⟩
        have HY8 : Hid (RC w3 w8 w3.heap.size ⟨X0, X1, I, l⟩ (.slice qa l.length qc)) := HY.out.below b8
        have HR8 : Hid (Blk w8 w.heap.size [.int .i64 0, .int .i64 0, .string ⟨#[]⟩, .slice none 0 0] 33) := HRr.out.below b8 HRr.out.lt
        have HB8 : Hid (Below w.heap.size w w8) := HBr.out.trans (b8.mono HBr.out.size)
        have hww : w.heap.size ≤ w3.heap.size := HB3.out.size
        clear b8 x0 x1 x2 x3 n0
        have q0 := HY8.out.1.cell 0 rfl
        have q1 := HY8.out.1.cell 1 rfl
        have q2 := HY8.out.1.cell 2 rfl
        have q3 := HY8.out.1.cell 3 rfl
        have x0 := HR8.out.cell 0 rfl
        have x1 := HR8.out.cell 1 rfl
        have x2 := HR8.out.cell 2 rfl
        have x3 := HR8.out.cell 3 rfl
        have f0 := HR8.out.frozen 0
        have f1 := HR8.out.frozen 1
        have f2 := HR8.out.frozen 2
        have f3 := HR8.out.frozen 3
        have HZ : Hid (Blk ((((w8.setCell ⟨w.heap.size, 0, none⟩ (.int .i64 X0)).setCell ⟨w.heap.size, 1, none⟩ (.int .i64 X1)).setCell ⟨w.heap.size, 2, none⟩ (.string I)).setCell ⟨w.heap.size, 3, none⟩ (.slice qa l.length qc)) w.heap.size [.int .i64 X0, .int .i64 X1, .string I, .slice qa l.length qc] 33) := (((HR8.out.set 0 _).set 1 _).set 2 _).set 3 _
        have HBz : Hid (Below w.heap.size w ((((w8.setCell ⟨w.heap.size, 0, none⟩ (.int .i64 X0)).setCell ⟨w.heap.size, 1, none⟩ (.int .i64 X1)).setCell ⟨w.heap.size, 2, none⟩ (.string I)).setCell ⟨w.heap.size, 3, none⟩ (.slice qa l.length qc))) := (((HB8.out.setCell (Nat.le_refl _) _).setCell (Nat.le_refl _) _).setCell (Nat.le_refl _) _).setCell (Nat.le_refl _) _
        have HOz : Hid (OwnS ((((w8.setCell ⟨w.heap.size, 0, none⟩ (.int .i64 X0)).setCell ⟨w.heap.size, 1, none⟩ (.int .i64 X1)).setCell ⟨w.heap.size, 2, none⟩ (.string I)).setCell ⟨w.heap.size, 3, none⟩ (.slice qa l.length qc)) w.heap.size (.slice qa l.length qc) l) := own_setS (own_setS (own_setS (own_setS HY8.out.2.1 (Nat.le_refl _) (by omega)) (Nat.le_refl _) (by omega)) (Nat.le_refl _) (by omega)) (by omega) (by omega)
        go_wp2
        clear x0 x1 x2 x3 f0 f1 f2 f3 q0 q1 q2 q3
        have y0 := HZ.out.cell 0 rfl
        have y1 := HZ.out.cell 1 rfl
        have y2 := HZ.out.cell 2 rfl
        have y3 := HZ.out.cell 3 rfl
        refine bodyPost_ret (v := .tuple #[.agg #[.int .i64 X0, .int .i64 X1, .string I, .slice qa l.length qc], .bool true]) ?_ rfl ?_
        · generalize hW : ((((w8.setCell _ _).setCell _ _).setCell _ _).setCell _ _ : World) = W at *
          clear HZ HBz HOz
          simp [results, Tryd.results15, go_sem, y0, y1, y2, y3]
        · rw [HE.out]; exact ⟨_, rfl, HOz.out, HBz.out⟩
      · have HE : Hid (rd = (zC, false)) := HOTHER.out l p HS2.out hF
        generalize showC ⟨X0, X1, I, l⟩ = qs at *
        have hbq : (qs.toList == s.toList) = false := by
          rw [← Bool.not_eq_true, beq_iff_eq]
          intro e
          exact hF (toList_inj e)
        clear hF hll
        unfold cV at kS
        simp only at kS
        go_wp2_with fail
        refine (kS _ hqo).mono ?_
        rintro e w8 ⟨rfl, b8⟩
        have HR8 : Hid (Blk w8 w.heap.size [.int .i64 0, .int .i64 0, .string ⟨#[]⟩, .slice none 0 0] 33) := HRr.out.below b8 HRr.out.lt
        have HB8 : Hid (Below w.heap.size w w8) := HBr.out.trans (b8.mono HBr.out.size)
        clear b8 x0 x1 x2 x3 n0
        have x0 := HR8.out.cell 0 rfl
        have x1 := HR8.out.cell 1 rfl
        have x2 := HR8.out.cell 2 rfl
        have x3 := HR8.out.cell 3 rfl
        have f0 := HR8.out.frozen 0
        have f1 := HR8.out.frozen 1
        have f2 := HR8.out.frozen 2
        have f3 := HR8.out.frozen 3
        have HZ : Hid (Blk ((((w8.setCell ⟨w.heap.size, 0, none⟩ (.int .i64 0)).setCell ⟨w.heap.size, 1, none⟩ (.int .i64 0)).setCell ⟨w.heap.size, 2, none⟩ (.string ⟨#[]⟩)).setCell ⟨w.heap.size, 3, none⟩ (.slice none 0 0)) w.heap.size [.int .i64 0, .int .i64 0, .string ⟨#[]⟩, .slice none 0 0] 33) := (((HR8.out.set 0 _).set 1 _).set 2 _).set 3 _
        have HBz : Hid (Below w.heap.size w ((((w8.setCell ⟨w.heap.size, 0, none⟩ (.int .i64 0)).setCell ⟨w.heap.size, 1, none⟩ (.int .i64 0)).setCell ⟨w.heap.size, 2, none⟩ (.string ⟨#[]⟩)).setCell ⟨w.heap.size, 3, none⟩ (.slice none 0 0))) := (((HB8.out.setCell (Nat.le_refl _) _).setCell (Nat.le_refl _) _).setCell (Nat.le_refl _) _).setCell (Nat.le_refl _) _
        have HOz : Hid (OwnS ((((w8.setCell ⟨w.heap.size, 0, none⟩ (.int .i64 0)).setCell ⟨w.heap.size, 1, none⟩ (.int .i64 0)).setCell ⟨w.heap.size, 2, none⟩ (.string ⟨#[]⟩)).setCell ⟨w.heap.size, 3, none⟩ (.slice none 0 0)) w.heap.size (.slice none 0 0) []) := OwnS.nil _ _
        go_wp2
        clear x0 x1 x2 x3 f0 f1 f2 f3 
        have y0 := HZ.out.cell 0 rfl
        have y1 := HZ.out.cell 1 rfl
        have y2 := HZ.out.cell 2 rfl
        have y3 := HZ.out.cell 3 rfl
        refine bodyPost_ret (v := .tuple #[.agg #[.int .i64 0, .int .i64 0, .string ⟨#[]⟩, .slice none 0 0], .bool false]) ?_ rfl ?_
        · generalize hW : ((((w8.setCell _ _).setCell _ _).setCell _ _).setCell _ _ : World) = W at *
          clear HZ HBz HOz
          simp [results, Tryd.results15, go_sem, y0, y1, y2, y3]
        · rw [HE.out]; exact ⟨_, rfl, HOz.out, HBz.out⟩
end Go.Proofs.YtbpmjejmeaifbaaDoor
