/- What spec.l8Vote draws, as far as the laws ask; old memory stands but for the cursor. Conditions: a code of at most 2 to the 20 bytes. -/
import Derived.Test.YtmjlpdmdpagggaaDsv
import Derived.Test.YtmjlpdmdpagggaaBk
import Derived.Test.YtmjlpdmdpagggaaSho
import Derived.Test.YtmjlpdmdpagggaaVo
import Derived.Deep.DeepCutAuto
import Derived.Deep.CutBlock
namespace Go.Proofs.Ytmjlpdmdpagggaa
open Go.RowKit
open Num
set_option linter.unusedVariables false
/-- What is drawn of a vote, as far as it is asked. -/
def Dr (r : Int) (i : ByteArray) (v : Int) : Prop := -1 ≤ r ∧ r ≤ 1001 ∧ 0 ≤ v ∧ v ≤ 100 ∧ i.size ≤ 9
/-- A vote that is being drawn: it lies in block b, the result's block c is as it was laid. -/
def VSt (w wx : World) (g B b c : Nat) (x : Vt) : Prop :=
  Blk wx b (tcs x).toList 31 ∧ Dr x.r x.i x.v ∧ DS wx g B ∧ w.grownBy wx (some g) ∧ Blk wx c [.int .i64 0, .int .i64 0, .int .i64 0, .string ⟨#[]⟩, .int .i64 0] 31 ∧ w.heap.size ≤ b ∧ w.heap.size ≤ c ∧ b ≠ c ∧ g < w.heap.size ∧ B ≤ w.heap.size
theorem VSt.call {w wx wy : World} {g B b c : Nat} {x : Vt} (h : VSt w wx g B b c x) (hd : DS wy g B) (hg : wx.grownBy wy (some g)) : VSt w wy g B b c x := by
  obtain ⟨h1, h2, h3, h4, h5, h6, h7, h8, h9, h10⟩ := h
  exact ⟨h1.grown hg (by simp; omega), h2, hd, grown_trans h4 hg, h5.grown hg (by simp; omega), h6, h7, h8, h9, h10⟩
theorem VSt.below {w wx wy : World} {g B b c : Nat} {x : Vt} (h : VSt w wx g B b c x) (hb : Below wx.heap.size wx wy) : VSt w wy g B b c x := by
  obtain ⟨h1, h2, h3, h4, h5, h6, h7, h8, h9, h10⟩ := h
  have hs : w.heap.size ≤ wx.heap.size := h4.size
  refine ⟨h1.below hb h1.lt, h2, h3.below (hb.mono (by omega)), ⟨hb.os.trans h4.os, hb.tape.trans h4.tape, hb.output.trans h4.output, Nat.le_trans h4.size hb.size, fun k hk hne => ?_⟩, h5.below hb h5.lt, h6, h7, h8, h9, h10⟩
  rw [hb.block k (by omega)]; exact h4.block k hk hne
theorem gr_below {w wx wy : World} {r : Option Nat} (h : w.grownBy wx r) (hb : Below w.heap.size wx wy) : w.grownBy wy r :=
  ⟨hb.os.trans h.os, hb.tape.trans h.tape, hb.output.trans h.output, Nat.le_trans h.size hb.size, fun k hk hne => (hb.block k hk).trans (h.block k hk hne)⟩
theorem VSt.alloc {w wx : World} {g B b c : Nat} {x : Vt} (h : VSt w wx g B b c x) (o : Obj) : VSt w (wx.alloc o) g B b c x := h.below ((Below.refl _ _).alloc (Nat.le_refl _) _)
theorem VSt.set {w wx : World} {g B b c : Nat} {x : Vt} (h : VSt w wx g B b c x) (k : Nat) (u : Value) (y : Vt) (hy : (tcs x).toList.set k u = (tcs y).toList) (hr : Dr y.r y.i y.v) : VSt w (wx.setCell ⟨b, k, none⟩ u) g B b c y := by
  obtain ⟨h1, h2, h3, h4, h5, h6, h7, h8, h9, h10⟩ := h
  refine ⟨hy ▸ h1.set k u, hr, h3.below ((Below.refl _ _).setCell (show B ≤ b by omega) u), ?_, h5.other k u (fun e => h8 e.symm), h6, h7, h8, h9, h10⟩
  exact ⟨h4.os, h4.tape, h4.output, by simpa using h4.size, fun j hj hne => (heap_setCell_other wx ⟨b, k, none⟩ j u (show j ≠ b by omega)).trans (h4.block j hj hne)⟩
set_option maxHeartbeats 3200000 in
theorem vote_d (g B : Nat) (w : World) (hd : DS w g B) (hB : B ≤ w.heap.size) :
    Calls Try.prog 48 #[.pointer (some ⟨g, 0, none⟩)] w fun e w' => ∃ x : Vt, e = .returned (tV x) ∧ Hid (Dr x.r x.i x.v) ∧ Hid (DS w' g B) ∧ Hid (w.grownBy w' (some g)) := by
  have HC0 : Hid (Blk (w.alloc (.cells [.int .i64 0, .int .i64 0, .int .i64 0, .string ⟨#[]⟩, .int .i64 0].toArray 31)) w.heap.size [.int .i64 0, .int .i64 0, .int .i64 0, .string ⟨#[]⟩, .int .i64 0] 31) := blk_new w _ _
  have HD0 : Hid (DS (w.alloc (.cells [.int .i64 0, .int .i64 0, .int .i64 0, .string ⟨#[]⟩, .int .i64 0].toArray 31)) g B) := hd.below ((Below.refl _ _).alloc hB _)
  have HG0 : Hid (w.grownBy (w.alloc (.cells [.int .i64 0, .int .i64 0, .int .i64 0, .string ⟨#[]⟩, .int .i64 0].toArray 31)) (some g)) := grown_alloc (grown_refl _ _) _
  have hg : g < w.heap.size := hd.lt'
  clear hd
  go_enter Try.func48, Try.ntmps48
  go_wp2_with fail
  generalize w.alloc (Obj.cells #[Value.int .i64 0, Value.int .i64 0, Value.int .i64 0, Value.string ⟨#[]⟩, Value.int .i64 0] 31) = w0 at *
  refine (below_d g B 3 _ HD0.out (by omega)).mono ?_
  rintro e w1 ⟨y0, rfl, a0, a1, HD1, HG1⟩
  go_wp2_with fail
  refine (below_d g B 3 _ HD1.out (by omega)).mono ?_
  rintro e w2 ⟨y1, rfl, b0, b1, HD2, HG2⟩
  go_wp2_with fail
  refine (below_d g B 2 _ HD2.out (by omega)).mono ?_
  rintro e w3 ⟨y2, rfl, c0, c1, HD3, HG3⟩
  go_wp2_with fail
  refine (below_d g B 5 _ HD3.out (by omega)).mono ?_
  rintro e w4 ⟨y3, rfl, d0, d1, HD4, HG4⟩
  have HG5 : Hid (w.grownBy w4 (some g)) := grown_trans (grown_trans (grown_trans (grown_trans HG0.out HG1.out) HG2.out) HG3.out) HG4.out
  have HC5 : Hid (Blk w4 w.heap.size [.int .i64 0, .int .i64 0, .int .i64 0, .string ⟨#[]⟩, .int .i64 0] 31) := (((HC0.out.grown HG1.out (by simp; omega)).grown HG2.out (by simp; omega)).grown HG3.out (by simp; omega)).grown HG4.out (by simp; omega)
  clear HG0 HG1 HG2 HG3 HG4 HC0 HD0 HD1 HD2 HD3
  obtain ⟨B4, hB4⟩ : ∃ z, w4.heap.size = z := ⟨_, rfl⟩
  have HS : Hid (VSt w (w4.alloc (.cells (tcs ⟨1 + y0, y1, 1 + y2, ⟨#[]⟩, 1 + y3⟩).toList.toArray 31)) g B w4.heap.size w.heap.size ⟨1 + y0, y1, 1 + y2, ⟨#[]⟩, 1 + y3⟩) :=
    ⟨blk_new w4 _ _, ⟨by show -1 ≤ y1; omega, by show y1 ≤ 1001; omega, by show 0 ≤ 1 + y3; omega, by show 1 + y3 ≤ 100; omega, by show 0 ≤ 9; omega⟩, HD4.out.below ((Below.refl _ _).alloc (by have := HG5.out.size; omega) _), grown_alloc HG5.out _, HC5.out.alloc _, HG5.out.size, Nat.le_refl _, by have := HC5.out.lt; omega, hg, hB⟩
  unfold tcs at HS
  simp only at HS
  go_wp2_with fail
  generalize w4.alloc (Obj.cells #[Value.int .i64 (1 + y0), Value.int .i64 y1, Value.int .i64 (1 + y2), Value.string ⟨#[]⟩, Value.int .i64 (1 + y3)] 31) = w5 at *
  rw [hB4] at *
  clear hB4 HG5 HC5 HD4
  refine (once_d g B 4 _ HS.out.2.2.1).mono ?_
  rintro e w6 ⟨t, rfl, HD6, HG6⟩
  have HS6 : Hid (VSt w w6 g B B4 w.heap.size ⟨1 + y0, y1, 1 + y2, ⟨#[]⟩, 1 + y3⟩) := HS.out.call HD6.out HG6.out
  clear HS HD6 HG6
  go_upto_if 18 with fail
  go_cut [] (fun wx => ∃ x : Vt, Hid (VSt w wx g B B4 w.heap.size x))
  case first =>
    rcases t with _ | _
    · go_wp2_with fail
      refine (text_d g B 1 _ HS6.out.2.2.1 (by omega) (by omega)).mono ?_
      rintro e w7 ⟨t, rfl, hz, HD7, HG7⟩
      have HS7 : Hid (VSt w w7 g B B4 w.heap.size ⟨1 + y0, y1, 1 + y2, ⟨#[]⟩, 1 + y3⟩) := HS6.out.call HD7.out HG7.out
      have ht : t.size ≤ 1099511627776 := by have := hz.out; omega
      clear HS6 HD7 HG7 hz
      have hsz := size_shortB t
      go_wp2_with fail
      refine (spec_short t w7 ht).mono ?_
      rintro e w8 ⟨rfl, b8⟩
      have HS8 : Hid (VSt w w8 g B B4 w.heap.size ⟨1 + y0, y1, 1 + y2, ⟨#[]⟩, 1 + y3⟩) := HS7.out.below b8
      clear HS7 b8 ht
      generalize shortB t = q at *
      have HQ : Hid (VSt w (w8.setCell ⟨B4, 3, none⟩ (.string q)) g B B4 w.heap.size ⟨1 + y0, y1, 1 + y2, q, 1 + y3⟩) := HS8.out.set 3 _ _ rfl ⟨by show -1 ≤ y1; omega, by show y1 ≤ 1001; omega, by show 0 ≤ 1 + y3; omega, by show 1 + y3 ≤ 100; omega, by show q.size ≤ 9; omega⟩
      have s3 := HS8.out.1.cell 3 rfl
      have sf := HS8.out.1.frozen 3
      clear HS8 hsz
      go_wp2_with fail
      go_meet
      exact ⟨_, HQ⟩
    · go_wp2_with fail
      go_meet
      exact ⟨_, HS6⟩
  case rest =>
  obtain ⟨x, HS7⟩ := hcut
  rename World => w7
  clear HS6
  go_wp2_with fail
  refine (once_d g B 10 _ HS7.out.2.2.1).mono ?_
  rintro e w8 ⟨t, rfl, HD8, HG8⟩
  have HS8 : Hid (VSt w w8 g B B4 w.heap.size x) := HS7.out.call HD8.out HG8.out
  clear HS7 HD8 HG8
  go_upto_if 24 with fail
  go_cut [] (fun wx => ∃ x : Vt, Hid (VSt w wx g B B4 w.heap.size x))
  case first =>
    rcases t with _ | _
    · go_wp2_with fail
      go_meet
      exact ⟨_, HS8⟩
    · go_wp2_with fail
      refine (below_d g B 5 _ HS8.out.2.2.1 (by omega)).mono ?_
      rintro e w9 ⟨y, rfl, e0, e1, HD9, HG9⟩
      have HS9 : Hid (VSt w w9 g B B4 w.heap.size x) := HS8.out.call HD9.out HG9.out
      clear HS8 HD9 HG9
      have hy : y = 0 ∨ y = 1 ∨ y = 2 ∨ y = 3 ∨ y = 4 := by omega
      clear e0 e1
      rcases hy with rfl | rfl | rfl | rfl | rfl
      · have HSa : Hid (VSt w (w9.alloc (.cells (([0, 1000001] : List Int).map (Value.int .i64)).toArray 3)) g B B4 w.heap.size x) := HS9.out.alloc _
        have HZ : Hid ((w9.alloc (.cells (([0, 1000001] : List Int).map (Value.int .i64)).toArray 3)).heap[w9.heap.size]? = some (.cells (([0, 1000001] : List Int).map (Value.int .i64)).toArray 3 (0, 0))) := heap_alloc_new _ _
        have hne : w9.heap.size ≠ g := by have := HS9.out.2.2.1.lt'; omega
        clear HS9
        go_wp2_with fail
        refine (pick_d g w9.heap.size B [0, 1000001] _ HSa.out.2.2.1 HZ.out hne (by simp) (by simp)).mono ?_
        rintro e wa ⟨p, rfl, hp, HDa, HGa⟩
        have HSb : Hid (VSt w wa g B B4 w.heap.size x) := HSa.out.call HDa.out HGa.out
        clear HSa HZ HDa HGa
        have hx := HSb.out.2.1
        have HQ : Hid (VSt w (wa.setCell ⟨B4, 0, none⟩ (.int .i64 p)) g B B4 w.heap.size ⟨p, x.r, x.s, x.i, x.v⟩) := HSb.out.set 0 _ _ rfl ⟨hx.1, hx.2.1, hx.2.2.1, hx.2.2.2.1, hx.2.2.2.2⟩
        have s3 := HSb.out.1.cell 0 rfl
        have sf := HSb.out.1.frozen 0
        clear HSb hx
        go_wp2_with fail
        go_meet
        exact ⟨_, HQ⟩
      · have HSa : Hid (VSt w (w9.alloc (.cells (([-1, 1000, 1001] : List Int).map (Value.int .i64)).toArray 3)) g B B4 w.heap.size x) := HS9.out.alloc _
        have HZ : Hid ((w9.alloc (.cells (([-1, 1000, 1001] : List Int).map (Value.int .i64)).toArray 3)).heap[w9.heap.size]? = some (.cells (([-1, 1000, 1001] : List Int).map (Value.int .i64)).toArray 3 (0, 0))) := heap_alloc_new _ _
        have hne : w9.heap.size ≠ g := by have := HS9.out.2.2.1.lt'; omega
        clear HS9
        go_wp2_with fail
        refine (pick_d g w9.heap.size B [-1, 1000, 1001] _ HSa.out.2.2.1 HZ.out hne (by simp) (by simp)).mono ?_
        rintro e wa ⟨p, rfl, hp, HDa, HGa⟩
        have HSb : Hid (VSt w wa g B B4 w.heap.size x) := HSa.out.call HDa.out HGa.out
        clear HSa HZ HDa HGa
        have hx := HSb.out.2.1
        have HQ : Hid (VSt w (wa.setCell ⟨B4, 1, none⟩ (.int .i64 p)) g B B4 w.heap.size ⟨x.h, p, x.s, x.i, x.v⟩) := HSb.out.set 1 _ _ rfl ⟨by have := hp.out; simp at this; show -1 ≤ p; omega, by have := hp.out; simp at this; show p ≤ 1001; omega, hx.2.2.1, hx.2.2.2.1, hx.2.2.2.2⟩
        have s3 := HSb.out.1.cell 1 rfl
        have sf := HSb.out.1.frozen 1
        clear HSb hx
        go_wp2_with fail
        go_meet
        exact ⟨_, HQ⟩
      · have HSa : Hid (VSt w (w9.alloc (.cells (([0, 3] : List Int).map (Value.int .i64)).toArray 3)) g B B4 w.heap.size x) := HS9.out.alloc _
        have HZ : Hid ((w9.alloc (.cells (([0, 3] : List Int).map (Value.int .i64)).toArray 3)).heap[w9.heap.size]? = some (.cells (([0, 3] : List Int).map (Value.int .i64)).toArray 3 (0, 0))) := heap_alloc_new _ _
        have hne : w9.heap.size ≠ g := by have := HS9.out.2.2.1.lt'; omega
        clear HS9
        go_wp2_with fail
        refine (pick_d g w9.heap.size B [0, 3] _ HSa.out.2.2.1 HZ.out hne (by simp) (by simp)).mono ?_
        rintro e wa ⟨p, rfl, hp, HDa, HGa⟩
        have HSb : Hid (VSt w wa g B B4 w.heap.size x) := HSa.out.call HDa.out HGa.out
        clear HSa HZ HDa HGa
        have hx := HSb.out.2.1
        have HQ : Hid (VSt w (wa.setCell ⟨B4, 2, none⟩ (.int .i64 p)) g B B4 w.heap.size ⟨x.h, x.r, p, x.i, x.v⟩) := HSb.out.set 2 _ _ rfl ⟨hx.1, hx.2.1, hx.2.2.1, hx.2.2.2.1, hx.2.2.2.2⟩
        have s3 := HSb.out.1.cell 2 rfl
        have sf := HSb.out.1.frozen 2
        clear HSb hx
        go_wp2_with fail
        go_meet
        exact ⟨_, HQ⟩
      · go_wp2_with fail
        refine (text_d g B 9 _ HS9.out.2.2.1 (by omega) (by omega)).mono ?_
        rintro e wa ⟨p, rfl, hp, HDa, HGa⟩
        have HSb : Hid (VSt w wa g B B4 w.heap.size x) := HS9.out.call HDa.out HGa.out
        clear HS9 HDa HGa
        have hx := HSb.out.2.1
        have HQ : Hid (VSt w (wa.setCell ⟨B4, 3, none⟩ (.string p)) g B B4 w.heap.size ⟨x.h, x.r, x.s, p, x.v⟩) := HSb.out.set 3 _ _ rfl ⟨hx.1, hx.2.1, hx.2.2.1, hx.2.2.2.1, by have := hp.out; show p.size ≤ 9; omega⟩
        have s3 := HSb.out.1.cell 3 rfl
        have sf := HSb.out.1.frozen 3
        clear HSb hx
        go_wp2_with fail
        go_meet
        exact ⟨_, HQ⟩
      · have HSa : Hid (VSt w (w9.alloc (.cells (([0, 99, 100] : List Int).map (Value.int .i64)).toArray 3)) g B B4 w.heap.size x) := HS9.out.alloc _
        have HZ : Hid ((w9.alloc (.cells (([0, 99, 100] : List Int).map (Value.int .i64)).toArray 3)).heap[w9.heap.size]? = some (.cells (([0, 99, 100] : List Int).map (Value.int .i64)).toArray 3 (0, 0))) := heap_alloc_new _ _
        have hne : w9.heap.size ≠ g := by have := HS9.out.2.2.1.lt'; omega
        clear HS9
        go_wp2_with fail
        refine (pick_d g w9.heap.size B [0, 99, 100] _ HSa.out.2.2.1 HZ.out hne (by simp) (by simp)).mono ?_
        rintro e wa ⟨p, rfl, hp, HDa, HGa⟩
        have HSb : Hid (VSt w wa g B B4 w.heap.size x) := HSa.out.call HDa.out HGa.out
        clear HSa HZ HDa HGa
        have hx := HSb.out.2.1
        have HQ : Hid (VSt w (wa.setCell ⟨B4, 4, none⟩ (.int .i64 p)) g B B4 w.heap.size ⟨x.h, x.r, x.s, x.i, p⟩) := HSb.out.set 4 _ _ rfl ⟨hx.1, hx.2.1, by have := hp.out; simp at this; show 0 ≤ p; omega, by have := hp.out; simp at this; show p ≤ 100; omega, hx.2.2.2.2⟩
        have s3 := HSb.out.1.cell 4 rfl
        have sf := HSb.out.1.frozen 4
        clear HSb hx
        go_wp2_with fail
        go_meet
        exact ⟨_, HQ⟩
  case rest =>
  obtain ⟨x, HSe⟩ := hcut
  rename World => we
  clear HS8
  obtain ⟨E1, E2, E3, E4, E5, E6, E7, E8, E9, E10⟩ := HSe.out
  obtain ⟨h, r, s, i, v⟩ := x
  have HE1 : Hid (Blk we B4 [.int .i64 h, .int .i64 r, .int .i64 s, .string i, .int .i64 v] 31) := E1
  have HE2 : Hid (Dr r i v) := E2
  have HE5 : Hid (Blk we w.heap.size [.int .i64 0, .int .i64 0, .int .i64 0, .string ⟨#[]⟩, .int .i64 0] 31) := E5
  have HE3 : Hid (DS we g B) := E3
  have HE4 : Hid (w.grownBy we (some g)) := E4
  have x0 := HE1.out.cell 0 rfl
  have x1 := HE1.out.cell 1 rfl
  have x2 := HE1.out.cell 2 rfl
  have x3 := HE1.out.cell 3 rfl
  have x4 := HE1.out.cell 4 rfl
  have p0 := HE5.out.cell 0 rfl
  have p1 := HE5.out.cell 1 rfl
  have p2 := HE5.out.cell 2 rfl
  have p3 := HE5.out.cell 3 rfl
  have p4 := HE5.out.cell 4 rfl
  have pf := fun j => HE5.out.frozen j
  clear E1 E2 E3 E4 E5 E6 E7 E8 E9 E10
  go_wp2
  have HR5 := ((((HE5.out.set 0 (.int .i64 h)).set 1 (.int .i64 r)).set 2 (.int .i64 s)).set 3 (.string i)).set 4 (.int .i64 v)
  have HB5 : Below w.heap.size we _ := (((((Below.refl w.heap.size we).setCell (p := ⟨w.heap.size, 0, none⟩) (Nat.le_refl _) (.int .i64 h)).setCell (p := ⟨w.heap.size, 1, none⟩) (Nat.le_refl _) (.int .i64 r)).setCell (p := ⟨w.heap.size, 2, none⟩) (Nat.le_refl _) (.int .i64 s)).setCell (p := ⟨w.heap.size, 3, none⟩) (Nat.le_refl _) (.string i)).setCell (p := ⟨w.heap.size, 4, none⟩) (Nat.le_refl _) (.int .i64 v)
  clear x0 x1 x2 x3 x4 p0 p1 p2 p3 p4
  have y0 := HR5.cell 0 rfl
  have y1 := HR5.cell 1 rfl
  have y2 := HR5.cell 2 rfl
  have y3 := HR5.cell 3 rfl
  have y4 := HR5.cell 4 rfl
  have HDe := HE3.out.below (HB5.mono hB)
  have HGe := gr_below HE4.out HB5
  refine bodyPost_ret (v := .agg #[.int .i64 h, .int .i64 r, .int .i64 s, .string i, .int .i64 v]) ?_ rfl ⟨⟨h, r, s, i, v⟩, rfl, HE2, HDe, HGe⟩
  generalize (((((we.setCell _ _).setCell _ _).setCell _ _).setCell _ _).setCell _ _ : World) = W at *
  clear HB5 HR5 HDe HGe
  simp [results, Try.results48, go_sem, y0, y1, y2, y3, y4]
end Go.Proofs.Ytmjlpdmdpagggaa
