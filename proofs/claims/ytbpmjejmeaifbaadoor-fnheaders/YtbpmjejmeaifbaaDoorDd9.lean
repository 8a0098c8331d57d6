/- What the draws of chapters 7 and 9 give that FnHeaders asks for; old memory stays. Conditions: a code of at most 2 to the 20 bytes. -/
import Derived.Test.YtbpmjejmeaifbaaDoorS9
import Derived.Test.YtbpmjejmeaifbaaDoorCp
import Derived.Test.YtbpmjejmeaifbaaDoorMD
namespace Go.Proofs.YtbpmjejmeaifbaaDoor
open Go.RowKit
open Num
set_option linter.unusedVariables false
theorem ds_at {w : World} {a : Option Addr} {L : List UInt8} {cap : Nat} (hl : CodeAt w w.heap.size a L) (hlen : L.length ≤ 1048576) (h0 : Int) :
    DS (w.alloc (.cells #[.slice a L.length cap, .int .i64 0, .int .i64 h0] 94)) w.heap.size (w.heap.size + 1) := by
  refine ⟨a, L, cap, ⟨0, h0⟩, hlen, heap_alloc_new _ _, CodeAt.kept hl (grown_alloc (grown_refl _ _) _), by omega, fun j hj => ?_⟩
  obtain ⟨b, off, e, hne, hc⟩ := hl j hj
  have := World.block_lt_of_cell? w _ hc
  exact ⟨b, off, e, by simp at this; omega⟩
theorem code_next {w : World} {a : Option Addr} {L : List UInt8} (hl : CodeAt w w.heap.size a L) (o : Obj) : CodeAt (w.alloc o) (w.alloc o).heap.size a L := by
  intro j hj
  obtain ⟨b, off, e, hne, hc⟩ := hl j hj
  have h1 : b < w.heap.size := World.block_lt_of_cell? w _ hc
  refine ⟨b, off, e, by simp; omega, ?_⟩
  rw [((Below.refl _ _).alloc (Nat.le_refl _) o : Below w.heap.size w (w.alloc o)).cell (p := ⟨b, off + j, none⟩) h1]; exact hc
/-- A cursor just made: it lies behind what lay. -/
theorem cur_d (a : Option Addr) (L : List UInt8) (cap : Nat) (w : World) (hl : CodeAt w w.heap.size a L) (hlen : L.length ≤ 1048576) :
    Calls Tryd.prog 29 #[.slice a L.length cap] w fun e w' => e = .returned (.pointer (some ⟨w.heap.size, 0, none⟩)) ∧ Hid (DS w' w.heap.size (w.heap.size + 1)) ∧ Hid (Below w.heap.size w w') ∧ w.heap.size + 1 ≤ w'.heap.size := by
  refine (new_any a L cap w hl hlen).mono ?_
  rintro e w1 ⟨rfl, hw1⟩
  refine ⟨rfl, ?_, ?_, ?_⟩
  · show DS _ _ _; rw [hw1]; exact ds_at hl hlen _
  · show Below _ _ _; rw [hw1]; exact below_one _ _
  · rw [hw1]; simp
theorem below_gr {w w' wx : World} {B : Nat} (h : Below B w w') (hs : B ≤ w'.heap.size) (hg : w'.grownBy wx (some B)) : Below B w wx :=
  h.grown hg hs (fun k e => by injection e; omega)
set_option maxHeartbeats 3200000 in
set_option maxRecDepth 100000 in
theorem draw_rh (a : Option Addr) (L : List UInt8) (cap : Nat) (w : World) (hl : CodeAt w w.heap.size a L) (hlen : L.length ≤ 1048576) :
    Calls Tryd.prog 9 #[.slice a L.length cap] w fun e w' => ∃ s : ByteArray, e = .returned (.string s) ∧ Hid (s.size ≤ 1003) ∧ Hid (Below w.heap.size w w') := by
  have kN := cur_d a L cap w hl hlen
  clear hl
  go_enter Tryd.func9, Tryd.ntmps9
  go_wp2_with fail
  refine kN.mono ?_
  rintro e w1 ⟨rfl, HD1, HB1, hs1⟩
  clear kN
  go_wp2_with fail
  refine (head_d w.heap.size (w.heap.size + 1) w1 HD1.out hs1).mono ?_
  rintro e w2 ⟨y, rfl, HY, HD2, HG2⟩
  have HB2 : Hid (Below w.heap.size w w2) := below_gr HB1.out HB1.out.size HG2.out
  have hs2 : w.heap.size + 1 ≤ w2.heap.size := Nat.le_trans hs1 HG2.out.size
  have kS := fun W => spec_show y W
  have hz : (showH y).size ≤ 1000 := by have := showH_size y; omega
  generalize showH y = S at *
  generalize hV y = Y at *
  clear HD1 HB1 hs1 HG2 HY
  go_wp2_with fail
  refine (kS _).mono ?_
  rintro e w3 ⟨rfl, b3⟩
  have HB3 : Hid (Below w.heap.size w w3) := HB2.out.trans (b3.mono HB2.out.size)
  have HD3 : Hid (DS w3 w.heap.size (w.heap.size + 1)) := HD2.out.below (b3.mono hs2)
  clear HB2 HD2 b3 kS
  go_wp2_with fail
  refine (once_d w.heap.size (w.heap.size + 1) 3 _ HD3.out).mono ?_
  rintro e w4 ⟨t, rfl, HD4, HG4⟩
  have HB4 : Hid (Below w.heap.size w w4) := below_gr HB3.out HB3.out.size HG4.out
  clear HB3 HD3 HG4
  rcases t with _ | _
  · have HZ : Hid (S.size ≤ 1003) := show S.size ≤ 1003 by omega
    go_wp2
    go_ret
    exact ⟨S, rfl, HZ, HB4⟩
  · go_wp2_with fail
    refine (spoil_d w.heap.size (w.heap.size + 1) S _ HD4.out hz).mono ?_
    rintro e w5 ⟨u, rfl, HZ, HD5, HG5⟩
    have HB5 : Hid (Below w.heap.size w w5) := below_gr HB4.out HB4.out.size HG5.out
    clear HB4 HD4 HG5
    go_wp2
    go_ret
    exact ⟨u, rfl, HZ, HB5⟩
set_option maxHeartbeats 3200000 in
set_option maxRecDepth 100000 in
theorem draw_sh (a : Option Addr) (L : List UInt8) (cap : Nat) (w : World) (hl : CodeAt w w.heap.size a L) (hlen : L.length ≤ 1048576) :
    Calls Tryd.prog 6 #[.slice a L.length cap] w fun e w' => ∃ y : H, e = .returned (hV y) ∧ Hid (DrH y) ∧ Hid (Below w.heap.size w w') := by
  have HC0 : Hid (Blk (w.alloc (.cells [.int .i64 0, .int .i64 0, .string ⟨#[]⟩, .string ⟨#[]⟩, .string ⟨#[]⟩, .string ⟨#[]⟩].toArray 25)) w.heap.size [.int .i64 0, .int .i64 0, .string ⟨#[]⟩, .string ⟨#[]⟩, .string ⟨#[]⟩, .string ⟨#[]⟩] 25) := blk_new w _ _
  have HL0 : Hid (CodeAt (w.alloc (.cells [.int .i64 0, .int .i64 0, .string ⟨#[]⟩, .string ⟨#[]⟩, .string ⟨#[]⟩, .string ⟨#[]⟩].toArray 25)) (w.alloc (.cells [.int .i64 0, .int .i64 0, .string ⟨#[]⟩, .string ⟨#[]⟩, .string ⟨#[]⟩, .string ⟨#[]⟩].toArray 25)).heap.size a L) := code_next hl _
  have HB0 : Hid (Below w.heap.size w (w.alloc (.cells [.int .i64 0, .int .i64 0, .string ⟨#[]⟩, .string ⟨#[]⟩, .string ⟨#[]⟩, .string ⟨#[]⟩].toArray 25))) := below_one _ _
  have hs0 : (w.alloc (.cells [.int .i64 0, .int .i64 0, .string ⟨#[]⟩, .string ⟨#[]⟩, .string ⟨#[]⟩, .string ⟨#[]⟩].toArray 25)).heap.size = w.heap.size + 1 := by simp
  clear hl
  go_enter Tryd.func6, Tryd.ntmps6
  go_wp2_with fail
  generalize w.alloc (Obj.cells #[Value.int .i64 0, Value.int .i64 0, Value.string ⟨#[]⟩, Value.string ⟨#[]⟩, Value.string ⟨#[]⟩, Value.string ⟨#[]⟩] 25) = w0 at *
  refine (cur_d a L cap w0 HL0.out hlen).mono ?_
  rintro e w1 ⟨rfl, HD1, HB1, hs1⟩
  have HC1 : Hid (Blk w1 w.heap.size [.int .i64 0, .int .i64 0, .string ⟨#[]⟩, .string ⟨#[]⟩, .string ⟨#[]⟩, .string ⟨#[]⟩] 25) := HC0.out.below HB1.out HC0.out.lt
  have HBa : Hid (Below w.heap.size w w1) := HB0.out.trans (HB1.out.mono HB0.out.size)
  clear HL0 HC0 HB0 HB1
  rw [hs0] at HD1 hs1 ⊢
  clear hs0
  go_wp2_with fail
  refine (head_d (w.heap.size + 1) (w.heap.size + 1 + 1) w1 HD1.out hs1).mono ?_
  rintro e w2 ⟨y, rfl, HY, HD2, HG2⟩
  have HC2 : Hid (Blk w2 w.heap.size [.int .i64 0, .int .i64 0, .string ⟨#[]⟩, .string ⟨#[]⟩, .string ⟨#[]⟩, .string ⟨#[]⟩] 25) := HC1.out.grown HG2.out (by simp)
  have HB2 : Hid (Below w.heap.size w w2) := HBa.out.grown HG2.out HBa.out.size (fun k e => by injection e; omega)
  clear HD1 HC1 HBa hs1 HG2 HD2
  obtain ⟨h, t, ya, yv, yn, yd⟩ := y
  unfold hV
  simp only
  have p0 := HC2.out.cell 0 rfl
  have p1 := HC2.out.cell 1 rfl
  have p2 := HC2.out.cell 2 rfl
  have p3 := HC2.out.cell 3 rfl
  have p4 := HC2.out.cell 4 rfl
  have p5 := HC2.out.cell 5 rfl
  have pf := fun j => HC2.out.frozen j
  go_wp2
  have HR5 := ((((((HC2.out.set 0 (.int .i64 h)).set 1 (.int .i64 t)).set 2 (.string ya)).set 3 (.string yv)).set 4 (.string yn)).set 5 (.string yd))
  have HB5 := ((((((HB2.out.setCell (p := ⟨w.heap.size, 0, none⟩) (Nat.le_refl _) (.int .i64 h)).setCell (p := ⟨w.heap.size, 1, none⟩) (Nat.le_refl _) (.int .i64 t)).setCell (p := ⟨w.heap.size, 2, none⟩) (Nat.le_refl _) (.string ya)).setCell (p := ⟨w.heap.size, 3, none⟩) (Nat.le_refl _) (.string yv)).setCell (p := ⟨w.heap.size, 4, none⟩) (Nat.le_refl _) (.string yn)).setCell (p := ⟨w.heap.size, 5, none⟩) (Nat.le_refl _) (.string yd))
  clear p0 p1 p2 p3 p4 p5
  have y0 := HR5.cell 0 rfl
  have y1 := HR5.cell 1 rfl
  have y2 := HR5.cell 2 rfl
  have y3 := HR5.cell 3 rfl
  have y4 := HR5.cell 4 rfl
  have y5 := HR5.cell 5 rfl
  refine bodyPost_ret (v := .agg #[.int .i64 h, .int .i64 t, .string ya, .string yv, .string yn, .string yd]) ?_ rfl ⟨⟨h, t, ya, yv, yn, yd⟩, rfl, HY, HB5⟩
  generalize (((((((w2.setCell _ _).setCell _ _).setCell _ _).setCell _ _).setCell _ _).setCell _ _) : World) = W at *
  clear HB5 HR5
  simp [results, Tryd.results6, go_sem, y0, y1, y2, y3, y4, y5]
set_option maxHeartbeats 3200000 in
set_option maxRecDepth 100000 in
theorem draw_sc (a : Option Addr) (L : List UInt8) (cap : Nat) (w : World) (hl : CodeAt w w.heap.size a L) (hlen : L.length ≤ 1048576) :
    Calls Tryd.prog 11 #[.slice a L.length cap] w fun e w' => ∃ (x : Ct) (b : Option Addr) (cp : Nat), e = .returned (cV x b cp) ∧ Hid (DrC x) ∧ Hid (SO w' b x.l) ∧ Hid (Below w.heap.size w w') := by
  have HC0 : Hid (Blk (w.alloc (.cells [.int .i64 0, .int .i64 0, .string ⟨#[]⟩, .slice none 0 0].toArray 33)) w.heap.size [.int .i64 0, .int .i64 0, .string ⟨#[]⟩, .slice none 0 0] 33) := blk_new w _ _
  have HL0 : Hid (CodeAt (w.alloc (.cells [.int .i64 0, .int .i64 0, .string ⟨#[]⟩, .slice none 0 0].toArray 33)) (w.alloc (.cells [.int .i64 0, .int .i64 0, .string ⟨#[]⟩, .slice none 0 0].toArray 33)).heap.size a L) := code_next hl _
  have HB0 : Hid (Below w.heap.size w (w.alloc (.cells [.int .i64 0, .int .i64 0, .string ⟨#[]⟩, .slice none 0 0].toArray 33))) := below_one _ _
  have hs0 : (w.alloc (.cells [.int .i64 0, .int .i64 0, .string ⟨#[]⟩, .slice none 0 0].toArray 33)).heap.size = w.heap.size + 1 := by simp
  clear hl
  go_enter Tryd.func11, Tryd.ntmps11
  go_wp2_with fail
  generalize w.alloc (Obj.cells #[Value.int .i64 0, Value.int .i64 0, Value.string ⟨#[]⟩, Value.slice none 0 0] 33) = w0 at *
  refine (cur_d a L cap w0 HL0.out hlen).mono ?_
  rintro e w1 ⟨rfl, HD1, HB1, hs1⟩
  have HC1 : Hid (Blk w1 w.heap.size [.int .i64 0, .int .i64 0, .string ⟨#[]⟩, .slice none 0 0] 33) := HC0.out.below HB1.out HC0.out.lt
  have HBa : Hid (Below w.heap.size w w1) := HB0.out.trans (HB1.out.mono HB0.out.size)
  clear HL0 HC0 HB0 HB1
  rw [hs0] at HD1 hs1 ⊢
  clear hs0
  go_wp2_with fail
  refine (some9_d (w.heap.size + 1) (w.heap.size + 1 + 1) w1 HD1.out hs1).mono ?_
  rintro e w2 ⟨va, vc, l, y, x, b, cp, rfl, HV, HY, HX, HSO, HD2, HG2⟩
  have HC2 : Hid (Blk w2 w.heap.size [.int .i64 0, .int .i64 0, .string ⟨#[]⟩, .slice none 0 0] 33) := HC1.out.grown HG2.out (by simp)
  have HB2 : Hid (Below w.heap.size w w2) := HBa.out.grown HG2.out HBa.out.size (fun k e => by injection e; omega)
  have hs2 : w.heap.size < w2.heap.size := HC2.out.lt
  obtain ⟨yh, yt, ya, yv, yn, yd⟩ := y
  obtain ⟨h, r, i, m⟩ := x
  unfold hV cV
  simp only at HX HSO ⊢
  obtain ⟨w3, hw3⟩ : ∃ W, (w2.alloc (.cells [.int .i64 yh, .int .i64 yt, .string ya, .string yv, .string yn, .string yd].toArray 25)).alloc (.cells [.int .i64 h, .int .i64 r, .string i, .slice b m.length cp].toArray 33) = W := ⟨_, rfl⟩
  have HX3 : Hid (Blk w3 (w2.heap.size + 1) [.int .i64 h, .int .i64 r, .string i, .slice b m.length cp] 33) := by
    rw [← hw3]
    have h := blk_new (w2.alloc (.cells [.int .i64 yh, .int .i64 yt, .string ya, .string yv, .string yn, .string yd].toArray 25)) [.int .i64 h, .int .i64 r, .string i, .slice b m.length cp] 33
    rw [show (w2.alloc (.cells [.int .i64 yh, .int .i64 yt, .string ya, .string yv, .string yn, .string yd].toArray 25)).heap.size = w2.heap.size + 1 by simp] at h; exact h
  have HB23 : Hid (Below w2.heap.size w2 w3) := by rw [← hw3]; exact below_two _ _ _
  have hs23 : w2.heap.size + 1 < w3.heap.size := HX3.out.lt
  have HS3 : Hid (SO w3 b m) := SO.below HSO.out.1 HB23.out
  have HC3 : Hid (Blk w3 w.heap.size [.int .i64 0, .int .i64 0, .string ⟨#[]⟩, .slice none 0 0] 33) := HC2.out.below HB23.out HC2.out.lt
  have HB3 : Hid (Below w.heap.size w w3) := HB2.out.trans (HB23.out.mono HB2.out.size)
  have HSn : Hid (∀ b2 o, b = some ⟨b2, o, none⟩ → w.heap.size + 1 ≤ b2) := fun b2 o e => by have := HSO.out.2 b2 o e; omega
  have z0 := HX3.out.cell 0 rfl
  have z1 := HX3.out.cell 1 rfl
  have z2 := HX3.out.cell 2 rfl
  have z3 := HX3.out.cell 3 rfl
  have p0 := HC3.out.cell 0 rfl
  have p1 := HC3.out.cell 1 rfl
  have p2 := HC3.out.cell 2 rfl
  have p3 := HC3.out.cell 3 rfl
  have pf := fun j => HC3.out.frozen j
  clear HD1 HC1 HBa hs1 HG2 HD2 HV HB2 HC2 HSO
  go_wp2
  clear hw3 z0 z1 z2 z3
  have HSf : Hid (SO ((((w3.setCell ⟨w.heap.size, 0, none⟩ (.int .i64 h)).setCell ⟨w.heap.size, 1, none⟩ (.int .i64 r)).setCell ⟨w.heap.size, 2, none⟩ (.string i)).setCell ⟨w.heap.size, 3, none⟩ (.slice b m.length cp)) b m) := HS3.out.abv (((((Abv.refl (w.heap.size + 1) w3).set (Nat.lt_succ_self _) 0 (.int .i64 h)).set (Nat.lt_succ_self _) 1 (.int .i64 r)).set (Nat.lt_succ_self _) 2 (.string i)).set (Nat.lt_succ_self _) 3 (.slice b m.length cp)) HSn.out
  have HR5 := ((((HC3.out.set 0 (.int .i64 h)).set 1 (.int .i64 r)).set 2 (.string i)).set 3 (.slice b m.length cp))
  have HB5 := ((((HB3.out.setCell (p := ⟨w.heap.size, 0, none⟩) (Nat.le_refl _) (.int .i64 h)).setCell (p := ⟨w.heap.size, 1, none⟩) (Nat.le_refl _) (.int .i64 r)).setCell (p := ⟨w.heap.size, 2, none⟩) (Nat.le_refl _) (.string i)).setCell (p := ⟨w.heap.size, 3, none⟩) (Nat.le_refl _) (.slice b m.length cp))
  clear p0 p1 p2 p3
  have y0 := HR5.cell 0 rfl
  have y1 := HR5.cell 1 rfl
  have y2 := HR5.cell 2 rfl
  have y3 := HR5.cell 3 rfl
  refine bodyPost_ret (v := .agg #[.int .i64 h, .int .i64 r, .string i, .slice b m.length cp]) ?_ rfl ⟨⟨h, r, i, m⟩, b, cp, rfl, HX, HSf, HB5⟩
  clear HSf
  generalize ((((w3.setCell ⟨w.heap.size, 0, none⟩ (.int .i64 h)).setCell ⟨w.heap.size, 1, none⟩ (.int .i64 r)).setCell ⟨w.heap.size, 2, none⟩ (.string i)).setCell ⟨w.heap.size, 3, none⟩ (.slice b m.length cp)) = W at *
  clear HB5 HR5
  simp [results, Tryd.results11, go_sem, y0, y1, y2, y3]
set_option maxHeartbeats 3200000 in
set_option maxRecDepth 100000 in
theorem draw_rc (a : Option Addr) (L : List UInt8) (cap : Nat) (w : World) (hl : CodeAt w w.heap.size a L) (hlen : L.length ≤ 1048576) :
    Calls Tryd.prog 14 #[.slice a L.length cap] w fun e w' => ∃ s : ByteArray, e = .returned (.string s) ∧ Hid (s.size ≤ 1003) ∧ Hid (Below w.heap.size w w') := by
  have kN := cur_d a L cap w hl hlen
  clear hl
  go_enter Tryd.func14, Tryd.ntmps14
  go_wp2_with fail
  refine kN.mono ?_
  rintro e w1 ⟨rfl, HD1, HB1, hs1⟩
  clear kN
  go_wp2_with fail
  refine (some9_d w.heap.size (w.heap.size + 1) w1 HD1.out hs1).mono ?_
  rintro e w2 ⟨va, vc, l, y, x, b, cp, rfl, HV, HY, HX, HSO, HD2, HG2⟩
  have HB2 : Hid (Below w.heap.size w w2) := below_gr HB1.out HB1.out.size HG2.out
  have hs2 : w.heap.size + 1 ≤ w2.heap.size := Nat.le_trans hs1 HG2.out.size
  have HZ : Hid (SzOk x) := ⟨by have := HX.out.1; omega, by have := HX.out.2.1; omega, fun z hz => by have := HX.out.2.2 z hz; omega⟩
  have kS := fun W (h : SO W b x.l) => spec_showC x b cp W h HZ.out
  have hz : (showC x).size ≤ 1000 := by have := showC_size x; omega
  generalize showC x = S at *
  obtain ⟨yh, yt, ya, yv, yn, yd⟩ := y
  obtain ⟨h, r, i, m⟩ := x
  unfold hV cV at *
  simp only at HX HSO kS ⊢
  obtain ⟨w3, hw3⟩ : ∃ W, (w2.alloc (.cells [.int .i64 yh, .int .i64 yt, .string ya, .string yv, .string yn, .string yd].toArray 25)).alloc (.cells [.int .i64 h, .int .i64 r, .string i, .slice b m.length cp].toArray 33) = W := ⟨_, rfl⟩
  have HX3 : Hid (Blk w3 (w2.heap.size + 1) [.int .i64 h, .int .i64 r, .string i, .slice b m.length cp] 33) := by
    rw [← hw3]
    have h := blk_new (w2.alloc (.cells [.int .i64 yh, .int .i64 yt, .string ya, .string yv, .string yn, .string yd].toArray 25)) [.int .i64 h, .int .i64 r, .string i, .slice b m.length cp] 33
    rw [show (w2.alloc (.cells [.int .i64 yh, .int .i64 yt, .string ya, .string yv, .string yn, .string yd].toArray 25)).heap.size = w2.heap.size + 1 by simp] at h; exact h
  have HB23 : Hid (Below w2.heap.size w2 w3) := by rw [← hw3]; exact below_two _ _ _
  have hs23 : w2.heap.size + 1 < w3.heap.size := HX3.out.lt
  have HS3 : Hid (SO w3 b m) := SO.below HSO.out.1 HB23.out
  have HB3 : Hid (Below w.heap.size w w3) := HB2.out.trans (HB23.out.mono HB2.out.size)
  have HD3 : Hid (DS w3 w.heap.size (w.heap.size + 1)) := HD2.out.below (HB23.out.mono hs2)
  have z0 := HX3.out.cell 0 rfl
  have z1 := HX3.out.cell 1 rfl
  have z2 := HX3.out.cell 2 rfl
  have z3 := HX3.out.cell 3 rfl
  clear HB1 HD1 HG2 HD2 HV HB2 HB23 HSO HY hs1
  go_wp2_with fail
  clear hw3 z0 z1 z2 z3
  refine (kS _ HS3.out).mono ?_
  rintro e w4 ⟨rfl, b4⟩
  have hs3 : w.heap.size + 1 ≤ w3.heap.size := by omega
  have HB4 : Hid (Below w.heap.size w w4) := HB3.out.trans (b4.mono HB3.out.size)
  have HD4 : Hid (DS w4 w.heap.size (w.heap.size + 1)) := HD3.out.below (b4.mono hs3)
  clear HB3 HD3 b4 kS HX3 HS3
  go_wp2_with fail
  refine (once_d w.heap.size (w.heap.size + 1) 3 _ HD4.out).mono ?_
  rintro e w5 ⟨t, rfl, HD5, HG5⟩
  have HB5 : Hid (Below w.heap.size w w5) := below_gr HB4.out HB4.out.size HG5.out
  clear HB4 HD4 HG5
  rcases t with _ | _
  · have HZ : Hid (S.size ≤ 1003) := show S.size ≤ 1003 by omega
    go_wp2
    go_ret
    exact ⟨S, rfl, HZ, HB5⟩
  · go_wp2_with fail
    refine (spoil_d w.heap.size (w.heap.size + 1) S _ HD5.out hz).mono ?_
    rintro e w6 ⟨u, rfl, HZ, HD6, HG6⟩
    have HB6 : Hid (Below w.heap.size w w6) := below_gr HB5.out HB5.out.size HG6.out
    clear HB5 HD5 HG6
    go_wp2
    go_ret
    exact ⟨u, rfl, HZ, HB6⟩
theorem code_below {w w' : World} {a : Option Addr} {L : List UInt8} (hl : CodeAt w w.heap.size a L) (hb : Below w.heap.size w w') : CodeAt w' w'.heap.size a L := by
  intro j hj
  obtain ⟨b, off, e, hne, hc⟩ := hl j hj
  have h1 : b < w.heap.size := World.block_lt_of_cell? w _ hc
  have h2 := hb.size
  refine ⟨b, off, e, by omega, ?_⟩
  rw [hb.cell (p := ⟨b, off + j, none⟩) h1]; exact hc
end Go.Proofs.YtbpmjejmeaifbaaDoor
