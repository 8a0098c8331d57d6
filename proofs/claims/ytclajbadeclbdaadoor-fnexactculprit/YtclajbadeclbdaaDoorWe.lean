/- The walks of the exact laws of EvidOk and Culprit: they answer true, old memory stays. Conditions: texts that a machine can hold, the table of the hash. -/
import Derived.Test.YtclajbadeclbdaaDoorLy
import Derived.Test.YtclajbadeclbdaaDoorEq
namespace Go.Proofs.YtclajbadeclbdaaDoor
open Go.RowKit
open Num
set_option linter.unusedVariables false
set_option maxHeartbeats 1600000 in
set_option maxRecDepth 100000 in
theorem w_evok (a b : Sv) (w : World) (ha : SzY a) (hb : SzY b) (hT : Tab w) :
    Calls Tryd.prog 4 #[eV a b] w fun e w' => e = .returned (.bool true) ∧ Below w.heap.size w w' := by
  have HTa : Hid (Tab w) := hT
  have kZ := fun W => sz_ev a b 1048576 W ha hb (by decide) (by decide)
  have kT := fun W => to_ev a b W
  have kA := fun W => spec_evok a b W
  have kB := fun W (hT : Tab W) => impl_evok a b W hT
  clear hT ha hb
  generalize (SmY a ∧ SmY b) = P at *
  generalize evB a b = R at *
  obtain ⟨⟨h, r, s, i, v⟩, g⟩ := a
  obtain ⟨⟨h', r', s', i', v'⟩, g'⟩ := b
  unfold eV at *
  simp only at kZ kT kA kB ⊢
  have HX : Hid (Blk (w.alloc (.cells [.int .i64 h, .int .i64 r, .int .i64 s, .string i, .int .i64 v, .string g, .int .i64 h', .int .i64 r', .int .i64 s', .string i', .int .i64 v', .string g'].toArray 45)) w.heap.size [.int .i64 h, .int .i64 r, .int .i64 s, .string i, .int .i64 v, .string g, .int .i64 h', .int .i64 r', .int .i64 s', .string i', .int .i64 v', .string g'] 45) := blk_new w _ _
  have HB : Hid (Below w.heap.size w (w.alloc (.cells [.int .i64 h, .int .i64 r, .int .i64 s, .string i, .int .i64 v, .string g, .int .i64 h', .int .i64 r', .int .i64 s', .string i', .int .i64 v', .string g'].toArray 45))) := below_one _ _
  go_enter Tryd.func4, Tryd.ntmps4
  go_wp2_with fail
  generalize w.alloc (Obj.cells #[.int .i64 h, .int .i64 r, .int .i64 s, .string i, .int .i64 v, .string g, .int .i64 h', .int .i64 r', .int .i64 s', .string i', .int .i64 v', .string g'] 45) = w1 at *
  have HX0 := HX
  have HB0 := HB
  refine (kZ _).mono ?_
  rintro e u1 ⟨q, rfl, HQ, b1⟩
  have HX1 : Hid (Blk u1 w.heap.size [.int .i64 h, .int .i64 r, .int .i64 s, .string i, .int .i64 v, .string g, .int .i64 h', .int .i64 r', .int .i64 s', .string i', .int .i64 v', .string g'] 45) := HX0.out.below b1 HX0.out.lt
  have HB1 : Hid (Below w.heap.size w u1) := HB0.out.trans (b1.mono HB0.out.size)
  have x1_0 := HX1.out.cell 0 rfl
  have x1_1 := HX1.out.cell 1 rfl
  have x1_2 := HX1.out.cell 2 rfl
  have x1_3 := HX1.out.cell 3 rfl
  have x1_4 := HX1.out.cell 4 rfl
  have x1_5 := HX1.out.cell 5 rfl
  have x1_6 := HX1.out.cell 6 rfl
  have x1_7 := HX1.out.cell 7 rfl
  have x1_8 := HX1.out.cell 8 rfl
  have x1_9 := HX1.out.cell 9 rfl
  have x1_10 := HX1.out.cell 10 rfl
  have x1_11 := HX1.out.cell 11 rfl
  by_cases hq : q < 0
  · go_wp2
    go_ret
    exact ⟨rfl, HB1.out⟩
  go_wp2_with fail
  refine (kT _).mono ?_
  rintro e u2 ⟨rfl, b2⟩
  have HX2 : Hid (Blk u2 w.heap.size [.int .i64 h, .int .i64 r, .int .i64 s, .string i, .int .i64 v, .string g, .int .i64 h', .int .i64 r', .int .i64 s', .string i', .int .i64 v', .string g'] 45) := HX1.out.below b2 HX1.out.lt
  have HB2 : Hid (Below w.heap.size w u2) := HB1.out.trans (b2.mono HB1.out.size)
  clear x1_0 x1_1 x1_2 x1_3 x1_4 x1_5 x1_6 x1_7 x1_8 x1_9 x1_10 x1_11
  have x2_0 := HX2.out.cell 0 rfl
  have x2_1 := HX2.out.cell 1 rfl
  have x2_2 := HX2.out.cell 2 rfl
  have x2_3 := HX2.out.cell 3 rfl
  have x2_4 := HX2.out.cell 4 rfl
  have x2_5 := HX2.out.cell 5 rfl
  have x2_6 := HX2.out.cell 6 rfl
  have x2_7 := HX2.out.cell 7 rfl
  have x2_8 := HX2.out.cell 8 rfl
  have x2_9 := HX2.out.cell 9 rfl
  have x2_10 := HX2.out.cell 10 rfl
  have x2_11 := HX2.out.cell 11 rfl
  go_wp2_with fail
  refine (kA _).mono ?_
  rintro e u3 ⟨rfl, b3⟩
  have HX3 : Hid (Blk u3 w.heap.size [.int .i64 h, .int .i64 r, .int .i64 s, .string i, .int .i64 v, .string g, .int .i64 h', .int .i64 r', .int .i64 s', .string i', .int .i64 v', .string g'] 45) := HX2.out.below b3 HX2.out.lt
  have HB3 : Hid (Below w.heap.size w u3) := HB2.out.trans (b3.mono HB2.out.size)
  clear x2_0 x2_1 x2_2 x2_3 x2_4 x2_5 x2_6 x2_7 x2_8 x2_9 x2_10 x2_11
  have x3_0 := HX3.out.cell 0 rfl
  have x3_1 := HX3.out.cell 1 rfl
  have x3_2 := HX3.out.cell 2 rfl
  have x3_3 := HX3.out.cell 3 rfl
  have x3_4 := HX3.out.cell 4 rfl
  have x3_5 := HX3.out.cell 5 rfl
  have x3_6 := HX3.out.cell 6 rfl
  have x3_7 := HX3.out.cell 7 rfl
  have x3_8 := HX3.out.cell 8 rfl
  have x3_9 := HX3.out.cell 9 rfl
  have x3_10 := HX3.out.cell 10 rfl
  have x3_11 := HX3.out.cell 11 rfl
  go_wp2_with fail
  refine (kT _).mono ?_
  rintro e u4 ⟨rfl, b4⟩
  have HX4 : Hid (Blk u4 w.heap.size [.int .i64 h, .int .i64 r, .int .i64 s, .string i, .int .i64 v, .string g, .int .i64 h', .int .i64 r', .int .i64 s', .string i', .int .i64 v', .string g'] 45) := HX3.out.below b4 HX3.out.lt
  have HB4 : Hid (Below w.heap.size w u4) := HB3.out.trans (b4.mono HB3.out.size)
  clear x3_0 x3_1 x3_2 x3_3 x3_4 x3_5 x3_6 x3_7 x3_8 x3_9 x3_10 x3_11
  have x4_0 := HX4.out.cell 0 rfl
  have x4_1 := HX4.out.cell 1 rfl
  have x4_2 := HX4.out.cell 2 rfl
  have x4_3 := HX4.out.cell 3 rfl
  have x4_4 := HX4.out.cell 4 rfl
  have x4_5 := HX4.out.cell 5 rfl
  have x4_6 := HX4.out.cell 6 rfl
  have x4_7 := HX4.out.cell 7 rfl
  have x4_8 := HX4.out.cell 8 rfl
  have x4_9 := HX4.out.cell 9 rfl
  have x4_10 := HX4.out.cell 10 rfl
  have x4_11 := HX4.out.cell 11 rfl
  go_wp2_with fail
  refine (kB _ (HTa.out.below HB4.out HTa.out.pos)).mono ?_
  rintro e u5 ⟨rfl, b5⟩
  have HX5 : Hid (Blk u5 w.heap.size [.int .i64 h, .int .i64 r, .int .i64 s, .string i, .int .i64 v, .string g, .int .i64 h', .int .i64 r', .int .i64 s', .string i', .int .i64 v', .string g'] 45) := HX4.out.below b5 HX4.out.lt
  have HB5 : Hid (Below w.heap.size w u5) := HB4.out.trans (b5.mono HB4.out.size)
  clear x4_0 x4_1 x4_2 x4_3 x4_4 x4_5 x4_6 x4_7 x4_8 x4_9 x4_10 x4_11
  have x5_0 := HX5.out.cell 0 rfl
  have x5_1 := HX5.out.cell 1 rfl
  have x5_2 := HX5.out.cell 2 rfl
  have x5_3 := HX5.out.cell 3 rfl
  have x5_4 := HX5.out.cell 4 rfl
  have x5_5 := HX5.out.cell 5 rfl
  have x5_6 := HX5.out.cell 6 rfl
  have x5_7 := HX5.out.cell 7 rfl
  have x5_8 := HX5.out.cell 8 rfl
  have x5_9 := HX5.out.cell 9 rfl
  have x5_10 := HX5.out.cell 10 rfl
  have x5_11 := HX5.out.cell 11 rfl
  go_wp2
  go_ret
  exact ⟨rfl, HB5.out⟩
set_option maxHeartbeats 1600000 in
set_option maxRecDepth 100000 in
theorem w_culp (a b : Sv) (w : World) (ha : SzY a) (hb : SzY b) (hT : Tab w) :
    Calls Tryd.prog 5 #[eV a b] w fun e w' => e = .returned (.bool true) ∧ Below w.heap.size w w' := by
  have HTa : Hid (Tab w) := hT
  have kZ := fun W => sz_ev a b 1048576 W ha hb (by decide) (by decide)
  have kT := fun W => to_ev a b W
  have kA := fun W => spec_culprit a b W
  have kB := fun W (hT : Tab W) => impl_culprit a b W hT
  clear hT ha hb
  generalize (SmY a ∧ SmY b) = P at *
  generalize (bif evB a b then a.x.v else 0) = R at *
  obtain ⟨⟨h, r, s, i, v⟩, g⟩ := a
  obtain ⟨⟨h', r', s', i', v'⟩, g'⟩ := b
  unfold eV at *
  simp only at kZ kT kA kB ⊢
  have HX : Hid (Blk (w.alloc (.cells [.int .i64 h, .int .i64 r, .int .i64 s, .string i, .int .i64 v, .string g, .int .i64 h', .int .i64 r', .int .i64 s', .string i', .int .i64 v', .string g'].toArray 45)) w.heap.size [.int .i64 h, .int .i64 r, .int .i64 s, .string i, .int .i64 v, .string g, .int .i64 h', .int .i64 r', .int .i64 s', .string i', .int .i64 v', .string g'] 45) := blk_new w _ _
  have HB : Hid (Below w.heap.size w (w.alloc (.cells [.int .i64 h, .int .i64 r, .int .i64 s, .string i, .int .i64 v, .string g, .int .i64 h', .int .i64 r', .int .i64 s', .string i', .int .i64 v', .string g'].toArray 45))) := below_one _ _
  go_enter Tryd.func5, Tryd.ntmps5
  go_wp2_with fail
  generalize w.alloc (Obj.cells #[.int .i64 h, .int .i64 r, .int .i64 s, .string i, .int .i64 v, .string g, .int .i64 h', .int .i64 r', .int .i64 s', .string i', .int .i64 v', .string g'] 45) = w1 at *
  have HX0 := HX
  have HB0 := HB
  refine (kZ _).mono ?_
  rintro e u1 ⟨q, rfl, HQ, b1⟩
  have HX1 : Hid (Blk u1 w.heap.size [.int .i64 h, .int .i64 r, .int .i64 s, .string i, .int .i64 v, .string g, .int .i64 h', .int .i64 r', .int .i64 s', .string i', .int .i64 v', .string g'] 45) := HX0.out.below b1 HX0.out.lt
  have HB1 : Hid (Below w.heap.size w u1) := HB0.out.trans (b1.mono HB0.out.size)
  have x1_0 := HX1.out.cell 0 rfl
  have x1_1 := HX1.out.cell 1 rfl
  have x1_2 := HX1.out.cell 2 rfl
  have x1_3 := HX1.out.cell 3 rfl
  have x1_4 := HX1.out.cell 4 rfl
  have x1_5 := HX1.out.cell 5 rfl
  have x1_6 := HX1.out.cell 6 rfl
  have x1_7 := HX1.out.cell 7 rfl
  have x1_8 := HX1.out.cell 8 rfl
  have x1_9 := HX1.out.cell 9 rfl
  have x1_10 := HX1.out.cell 10 rfl
  have x1_11 := HX1.out.cell 11 rfl
  by_cases hq : q < 0
  · go_wp2
    go_ret
    exact ⟨rfl, HB1.out⟩
  go_wp2_with fail
  refine (kT _).mono ?_
  rintro e u2 ⟨rfl, b2⟩
  have HX2 : Hid (Blk u2 w.heap.size [.int .i64 h, .int .i64 r, .int .i64 s, .string i, .int .i64 v, .string g, .int .i64 h', .int .i64 r', .int .i64 s', .string i', .int .i64 v', .string g'] 45) := HX1.out.below b2 HX1.out.lt
  have HB2 : Hid (Below w.heap.size w u2) := HB1.out.trans (b2.mono HB1.out.size)
  clear x1_0 x1_1 x1_2 x1_3 x1_4 x1_5 x1_6 x1_7 x1_8 x1_9 x1_10 x1_11
  have x2_0 := HX2.out.cell 0 rfl
  have x2_1 := HX2.out.cell 1 rfl
  have x2_2 := HX2.out.cell 2 rfl
  have x2_3 := HX2.out.cell 3 rfl
  have x2_4 := HX2.out.cell 4 rfl
  have x2_5 := HX2.out.cell 5 rfl
  have x2_6 := HX2.out.cell 6 rfl
  have x2_7 := HX2.out.cell 7 rfl
  have x2_8 := HX2.out.cell 8 rfl
  have x2_9 := HX2.out.cell 9 rfl
  have x2_10 := HX2.out.cell 10 rfl
  have x2_11 := HX2.out.cell 11 rfl
  go_wp2_with fail
  refine (kA _).mono ?_
  rintro e u3 ⟨rfl, b3⟩
  have HX3 : Hid (Blk u3 w.heap.size [.int .i64 h, .int .i64 r, .int .i64 s, .string i, .int .i64 v, .string g, .int .i64 h', .int .i64 r', .int .i64 s', .string i', .int .i64 v', .string g'] 45) := HX2.out.below b3 HX2.out.lt
  have HB3 : Hid (Below w.heap.size w u3) := HB2.out.trans (b3.mono HB2.out.size)
  clear x2_0 x2_1 x2_2 x2_3 x2_4 x2_5 x2_6 x2_7 x2_8 x2_9 x2_10 x2_11
  have x3_0 := HX3.out.cell 0 rfl
  have x3_1 := HX3.out.cell 1 rfl
  have x3_2 := HX3.out.cell 2 rfl
  have x3_3 := HX3.out.cell 3 rfl
  have x3_4 := HX3.out.cell 4 rfl
  have x3_5 := HX3.out.cell 5 rfl
  have x3_6 := HX3.out.cell 6 rfl
  have x3_7 := HX3.out.cell 7 rfl
  have x3_8 := HX3.out.cell 8 rfl
  have x3_9 := HX3.out.cell 9 rfl
  have x3_10 := HX3.out.cell 10 rfl
  have x3_11 := HX3.out.cell 11 rfl
  go_wp2_with fail
  refine (kT _).mono ?_
  rintro e u4 ⟨rfl, b4⟩
  have HX4 : Hid (Blk u4 w.heap.size [.int .i64 h, .int .i64 r, .int .i64 s, .string i, .int .i64 v, .string g, .int .i64 h', .int .i64 r', .int .i64 s', .string i', .int .i64 v', .string g'] 45) := HX3.out.below b4 HX3.out.lt
  have HB4 : Hid (Below w.heap.size w u4) := HB3.out.trans (b4.mono HB3.out.size)
  clear x3_0 x3_1 x3_2 x3_3 x3_4 x3_5 x3_6 x3_7 x3_8 x3_9 x3_10 x3_11
  have x4_0 := HX4.out.cell 0 rfl
  have x4_1 := HX4.out.cell 1 rfl
  have x4_2 := HX4.out.cell 2 rfl
  have x4_3 := HX4.out.cell 3 rfl
  have x4_4 := HX4.out.cell 4 rfl
  have x4_5 := HX4.out.cell 5 rfl
  have x4_6 := HX4.out.cell 6 rfl
  have x4_7 := HX4.out.cell 7 rfl
  have x4_8 := HX4.out.cell 8 rfl
  have x4_9 := HX4.out.cell 9 rfl
  have x4_10 := HX4.out.cell 10 rfl
  have x4_11 := HX4.out.cell 11 rfl
  go_wp2_with fail
  refine (kB _ (HTa.out.below HB4.out HTa.out.pos)).mono ?_
  rintro e u5 ⟨rfl, b5⟩
  have HX5 : Hid (Blk u5 w.heap.size [.int .i64 h, .int .i64 r, .int .i64 s, .string i, .int .i64 v, .string g, .int .i64 h', .int .i64 r', .int .i64 s', .string i', .int .i64 v', .string g'] 45) := HX4.out.below b5 HX4.out.lt
  have HB5 : Hid (Below w.heap.size w u5) := HB4.out.trans (b5.mono HB4.out.size)
  clear x4_0 x4_1 x4_2 x4_3 x4_4 x4_5 x4_6 x4_7 x4_8 x4_9 x4_10 x4_11
  have x5_0 := HX5.out.cell 0 rfl
  have x5_1 := HX5.out.cell 1 rfl
  have x5_2 := HX5.out.cell 2 rfl
  have x5_3 := HX5.out.cell 3 rfl
  have x5_4 := HX5.out.cell 4 rfl
  have x5_5 := HX5.out.cell 5 rfl
  have x5_6 := HX5.out.cell 6 rfl
  have x5_7 := HX5.out.cell 7 rfl
  have x5_8 := HX5.out.cell 8 rfl
  have x5_9 := HX5.out.cell 9 rfl
  have x5_10 := HX5.out.cell 10 rfl
  have x5_11 := HX5.out.cell 11 rfl
  go_wp2
  go_ret
  exact ⟨rfl, HB5.out⟩
end Go.Proofs.YtclajbadeclbdaaDoor
