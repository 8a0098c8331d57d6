/- What the draws of chapter 10 give; old memory stays but for the cursor. Conditions: none of ours. -/
import Derived.Test.YtkmmnjiflnllbaaDsv
import Derived.Test.YtkmmnjiflnllbaaBk
import Derived.Test.YtkmmnjiflnllbaaTs
import Derived.Deep.DeepCutAuto
import Derived.Deep.CutBlock
import Derived.Deep.RegionHeld3
namespace Go.Proofs.Ytkmmnjiflnllbaa
open Go.RowKit
open Num
set_option linter.unusedVariables false
theorem gr_below {w wx wy : World} {r : Option Nat} (h : w.grownBy wx r) (hb : Below w.heap.size wx wy) : w.grownBy wy r :=
  ⟨hb.os.trans h.os, hb.tape.trans h.tape, hb.output.trans h.output, Nat.le_trans h.size hb.size, fun k hk hne => (hb.block k hk).trans (h.block k hk hne)⟩
theorem grown_alloc' {a w : World} {r : Option Nat} (h : a.grownBy w r) (o : Obj) : a.grownBy (w.alloc o) r :=
  grown_trans h ⟨rfl, rfl, rfl, by simp, fun k hk _ => Below.heap_alloc w o k hk⟩
theorem ds_at {w : World} {a : Option Addr} {L : List UInt8} {cap : Nat} (hl : CodeAt w w.heap.size a L) (hlen : L.length ≤ 1048576) (h0 : Int) :
    DS (w.alloc (.cells #[.slice a L.length cap, .int .i64 0, .int .i64 h0] 47)) w.heap.size (w.heap.size + 1) := by
  refine ⟨a, L, cap, ⟨0, h0⟩, hlen, heap_alloc_new _ _, CodeAt.kept hl (grown_alloc (grown_refl _ _) _), by omega, fun j hj => ?_⟩
  obtain ⟨b, off, e, hne, hc⟩ := hl j hj
  have := World.block_lt_of_cell? w _ hc
  exact ⟨b, off, e, by simp at this; omega⟩
/-- A cursor just made: it lies behind what lay. -/
theorem cur_d (a : Option Addr) (L : List UInt8) (cap : Nat) (w : World) (hl : CodeAt w w.heap.size a L) (hlen : L.length ≤ 1048576) :
    Calls Try.prog 19 #[.slice a L.length cap] w fun e w' => e = .returned (.pointer (some ⟨w.heap.size, 0, none⟩)) ∧ Hid (DS w' w.heap.size (w.heap.size + 1)) ∧ Hid (Below w.heap.size w w') ∧ w.heap.size + 1 ≤ w'.heap.size := by
  refine (new_any a L cap w hl hlen).mono ?_
  rintro e w1 ⟨rfl, hw1⟩
  refine ⟨rfl, ?_, ?_, ?_⟩
  · show DS _ _ _; rw [hw1]; exact ds_at hl hlen _
  · show Below _ _ _; rw [hw1]; exact (Below.refl _ _).alloc (Nat.le_refl _) _
  · rw [hw1]; simp
theorem below_gr {w w' wx : World} {B : Nat} (h : Below B w w') (hs : B ≤ w'.heap.size) (hg : w'.grownBy wx (some B)) : Below B w wx :=
  h.grown hg hs (fun k e => by injection e; omega)
/-- A trust that is being drawn: it lies in block b, the result's block c is as it was laid. -/
def TS (w wx : World) (g B b c : Nat) (p s : Int) : Prop :=
  Blk wx b [.int .i64 p, .int .i64 s] 25 ∧ DS wx g B ∧ w.grownBy wx (some g) ∧ Blk wx c [.int .i64 0, .int .i64 0] 25 ∧ w.heap.size ≤ b ∧ w.heap.size ≤ c ∧ b ≠ c ∧ g < w.heap.size ∧ B ≤ w.heap.size
theorem TS.call {w wx wy : World} {g B b c : Nat} {p s : Int} (h : TS w wx g B b c p s) (hd : DS wy g B) (hg : wx.grownBy wy (some g)) : TS w wy g B b c p s := by
  obtain ⟨h1, h3, h4, h5, h6, h7, h8, h9, h10⟩ := h
  exact ⟨h1.grown hg (by simp; omega), hd, grown_trans h4 hg, h5.grown hg (by simp; omega), h6, h7, h8, h9, h10⟩
theorem TS.below {w wx wy : World} {g B b c : Nat} {p s : Int} (h : TS w wx g B b c p s) (hb : Below wx.heap.size wx wy) : TS w wy g B b c p s := by
  obtain ⟨h1, h3, h4, h5, h6, h7, h8, h9, h10⟩ := h
  have hs : w.heap.size ≤ wx.heap.size := h4.size
  refine ⟨h1.below hb h1.lt, h3.below (hb.mono (by omega)), ⟨hb.os.trans h4.os, hb.tape.trans h4.tape, hb.output.trans h4.output, Nat.le_trans h4.size hb.size, fun k hk hne => ?_⟩, h5.below hb h5.lt, h6, h7, h8, h9, h10⟩
  rw [hb.block k (by omega)]; exact h4.block k hk hne
theorem TS.alloc {w wx : World} {g B b c : Nat} {p s : Int} (h : TS w wx g B b c p s) (o : Obj) : TS w (wx.alloc o) g B b c p s := h.below ((Below.refl _ _).alloc (Nat.le_refl _) _)
theorem TS.set {w wx : World} {g B b c : Nat} {p s p' s' : Int} (h : TS w wx g B b c p s) (k : Nat) (u : Value) (hy : ([.int .i64 p, .int .i64 s] : List Value).set k u = [.int .i64 p', .int .i64 s']) : TS w (wx.setCell ⟨b, k, none⟩ u) g B b c p' s' := by
  obtain ⟨h1, h3, h4, h5, h6, h7, h8, h9, h10⟩ := h
  refine ⟨hy ▸ h1.set k u, h3.below ((Below.refl _ _).setCell (show B ≤ b by omega) u), ?_, h5.other k u (fun e => h8 e.symm), h6, h7, h8, h9, h10⟩
  exact ⟨h4.os, h4.tape, h4.output, by simpa using h4.size, fun j hj hne => (heap_setCell_other wx ⟨b, k, none⟩ j u (show j ≠ b by omega)).trans (h4.block j hj hne)⟩
set_option maxHeartbeats 3200000 in
set_option maxRecDepth 100000 in
theorem trust_d (g B : Nat) (w : World) (hd : DS w g B) (hB : B ≤ w.heap.size) :
    Calls Try.prog 20 #[.pointer (some ⟨g, 0, none⟩)] w fun e w' => ∃ t : T, e = .returned (tV t) ∧ Hid (DS w' g B) ∧ Hid (w.grownBy w' (some g)) := by
  unfold tV
  have HC0 : Hid (Blk (w.alloc (.cells [.int .i64 0, .int .i64 0].toArray 25)) w.heap.size [.int .i64 0, .int .i64 0] 25) := blk_new w _ _
  have HD0 : Hid (DS (w.alloc (.cells [.int .i64 0, .int .i64 0].toArray 25)) g B) := hd.below ((Below.refl _ _).alloc hB _)
  have HG0 : Hid (w.grownBy (w.alloc (.cells [.int .i64 0, .int .i64 0].toArray 25)) (some g)) := grown_alloc' (grown_refl _ _) _
  have hg : g < w.heap.size := hd.lt'
  clear hd
  go_enter Try.func20, Try.ntmps20
  go_wp2_with fail
  generalize w.alloc (Obj.cells #[.int .i64 0, .int .i64 0] 25) = w0 at *
  refine (below_d g B 90 _ HD0.out (by omega)).mono ?_
  rintro e w1 ⟨y0, rfl, a0, a1, HD1, HG1⟩
  go_wp2_with fail
  refine (below_d g B 10 _ HD1.out (by omega)).mono ?_
  rintro e w2 ⟨y1, rfl, b0, b1, HD2, HG2⟩
  have HGa : Hid (w.grownBy w2 (some g)) := grown_trans (grown_trans HG0.out HG1.out) HG2.out
  have HCa : Hid (Blk w2 w.heap.size [.int .i64 0, .int .i64 0] 25) := (HC0.out.grown HG1.out (by simp; omega)).grown HG2.out (by simp; omega)
  clear HG0 HG1 HG2 HC0 HD0 HD1
  obtain ⟨B4, hB4⟩ : ∃ z, w2.heap.size = z := ⟨_, rfl⟩
  have HS : Hid (TS w (w2.alloc (.cells [.int .i64 (10 + y0), .int .i64 y1].toArray 25)) g B w2.heap.size w.heap.size (10 + y0) y1) :=
    ⟨blk_new w2 _ _, HD2.out.below ((Below.refl _ _).alloc (by have := HGa.out.size; omega) _), grown_alloc' HGa.out _, HCa.out.alloc _, HGa.out.size, Nat.le_refl _, by have := HCa.out.lt; omega, hg, hB⟩
  rw [hB4] at HS
  go_wp2_with fail
  generalize w2.alloc (Obj.cells #[Value.int .i64 (10 + y0), Value.int .i64 y1] 25) = w8 at *
  try rw [hB4]
  clear HGa HCa HD2 hB4
  refine (once_d g B 12 _ HS.out.2.1).mono ?_
  rintro e w9 ⟨b1, rfl, HD8, HG8⟩
  have HS8 : Hid (TS w w9 g B B4 w.heap.size (10 + y0) y1) := HS.out.call HD8.out HG8.out
  clear HS HD8 HG8
  rcases b1 with _ | _
  · go_wp2_with fail
    refine (once_d g B 12 _ HS8.out.2.1).mono ?_
    rintro e wk ⟨b2, rfl, HD9, HG9⟩
    have HS9 : Hid (TS w wk g B B4 w.heap.size (10 + y0) y1) := HS8.out.call HD9.out HG9.out
    clear HS8 HD9 HG9
    rcases b2 with _ | _
    · have x0 := HS9.out.1.cell 0 rfl
      have x1 := HS9.out.1.cell 1 rfl
      have p0 := HS9.out.2.2.2.1.cell 0 rfl
      have p1 := HS9.out.2.2.2.1.cell 1 rfl
      have pf := fun j => HS9.out.2.2.2.1.frozen j
      go_wp2
      have HR := (HS9.out.2.2.2.1.set 0 (.int .i64 (10 + y0))).set 1 (.int .i64 (y1))
      have HB5 : Below w.heap.size wk _ := ((Below.refl w.heap.size wk).setCell (p := ⟨w.heap.size, 0, none⟩) (Nat.le_refl _) (.int .i64 (10 + y0))).setCell (p := ⟨w.heap.size, 1, none⟩) (Nat.le_refl _) (.int .i64 (y1))
      clear x0 x1 p0 p1 pf
      have c0 := HR.cell 0 rfl
      have c1 := HR.cell 1 rfl
      have HDe := HS9.out.2.1.below (HB5.mono hB)
      have HGe := gr_below HS9.out.2.2.1 HB5
      refine bodyPost_ret (v := .agg #[.int .i64 (10 + y0), .int .i64 (y1)]) ?_ rfl ⟨⟨10 + y0, y1⟩, rfl, HDe, HGe⟩
      generalize ((wk.setCell _ _).setCell _ _ : World) = W at *
      clear HB5 HR HDe HGe
      simp [results, Try.results20, go_sem, c0, c1]
    · have HSa : Hid (TS w (wk.alloc (.cells (([-1, 1000, 1001] : List Int).map (Value.int .i64)).toArray 3)) g B B4 w.heap.size (10 + y0) y1) := HS9.out.alloc (.cells (([-1, 1000, 1001] : List Int).map (Value.int .i64)).toArray 3)
      have HZ : Hid ((wk.alloc (.cells (([-1, 1000, 1001] : List Int).map (Value.int .i64)).toArray 3)).heap[wk.heap.size]? = some (.cells (([-1, 1000, 1001] : List Int).map (Value.int .i64)).toArray 3 (0, 0))) := heap_alloc_new _ _
      have hne : wk.heap.size ≠ g := by have := HS9.out.2.1.lt'; omega
      clear HS9
      go_wp2_with fail
      refine (pick_d g wk.heap.size B [-1, 1000, 1001] _ HSa.out.2.1 HZ.out hne (by simp) (by simp)).mono ?_
      rintro e wp ⟨q, rfl, hq, HDa, HGa⟩
      have HSc : Hid (TS w wp g B B4 w.heap.size (10 + y0) y1) := HSa.out.call HDa.out HGa.out
      clear HSa HZ HDa HGa hne
      have HSd : Hid (TS w (wp.setCell ⟨B4, 1, none⟩ (.int .i64 q)) g B B4 w.heap.size (10 + y0) q) := HSc.out.set 1 _ rfl
      have s3 := HSc.out.1.cell 1 rfl
      have sf := HSc.out.1.frozen 1
      have x0 := HSd.out.1.cell 0 rfl
      have x1 := HSd.out.1.cell 1 rfl
      have p0 := HSd.out.2.2.2.1.cell 0 rfl
      have p1 := HSd.out.2.2.2.1.cell 1 rfl
      have pf := fun j => HSd.out.2.2.2.1.frozen j
      clear HSc
      go_wp2
      generalize wp.setCell ⟨B4, 1, none⟩ (Value.int IntKind.i64 q) = wl at *
      have HR := (HSd.out.2.2.2.1.set 0 (.int .i64 (10 + y0))).set 1 (.int .i64 q)
      have HB5 : Below w.heap.size wl _ := ((Below.refl w.heap.size wl).setCell (p := ⟨w.heap.size, 0, none⟩) (Nat.le_refl _) (.int .i64 (10 + y0))).setCell (p := ⟨w.heap.size, 1, none⟩) (Nat.le_refl _) (.int .i64 q)
      clear x0 x1 p0 p1 pf s3 sf
      have c0 := HR.cell 0 rfl
      have c1 := HR.cell 1 rfl
      have HDe := HSd.out.2.1.below (HB5.mono hB)
      have HGe := gr_below HSd.out.2.2.1 HB5
      refine bodyPost_ret (v := .agg #[.int .i64 (10 + y0), .int .i64 q]) ?_ rfl ⟨⟨10 + y0, q⟩, rfl, HDe, HGe⟩
      generalize ((wl.setCell _ _).setCell _ _ : World) = W at *
      clear HB5 HR HDe HGe
      simp [results, Try.results20, go_sem, c0, c1]
  · have HSa : Hid (TS w (w9.alloc (.cells (([0, 1, 100000, 100001] : List Int).map (Value.int .i64)).toArray 3)) g B B4 w.heap.size (10 + y0) y1) := HS8.out.alloc (.cells (([0, 1, 100000, 100001] : List Int).map (Value.int .i64)).toArray 3)
    have HZ : Hid ((w9.alloc (.cells (([0, 1, 100000, 100001] : List Int).map (Value.int .i64)).toArray 3)).heap[w9.heap.size]? = some (.cells (([0, 1, 100000, 100001] : List Int).map (Value.int .i64)).toArray 3 (0, 0))) := heap_alloc_new _ _
    have hne : w9.heap.size ≠ g := by have := HS8.out.2.1.lt'; omega
    clear HS8
    go_wp2_with fail
    refine (pick_d g w9.heap.size B [0, 1, 100000, 100001] _ HSa.out.2.1 HZ.out hne (by simp) (by simp)).mono ?_
    rintro e wp ⟨qz, rfl, hq, HDa, HGa⟩
    have HSb : Hid (TS w wp g B B4 w.heap.size (10 + y0) y1) := HSa.out.call HDa.out HGa.out
    clear HSa HZ HDa HGa hne
    have HQ : Hid (TS w (wp.setCell ⟨B4, 0, none⟩ (.int .i64 qz)) g B B4 w.heap.size qz y1) := HSb.out.set 0 _ rfl
    have s3 := HSb.out.1.cell 0 rfl
    have sf := HSb.out.1.frozen 0
    clear HSb
    go_wp2_with fail
    clear s3 sf
    generalize wp.setCell ⟨B4, 0, none⟩ (Value.int IntKind.i64 qz) = wq at *
    refine (once_d g B 12 _ HQ.out.2.1).mono ?_
    rintro e wk ⟨b2, rfl, HD9, HG9⟩
    have HS9 : Hid (TS w wk g B B4 w.heap.size (qz) y1) := HQ.out.call HD9.out HG9.out
    clear HQ HD9 HG9
    rcases b2 with _ | _
    · have x0 := HS9.out.1.cell 0 rfl
      have x1 := HS9.out.1.cell 1 rfl
      have p0 := HS9.out.2.2.2.1.cell 0 rfl
      have p1 := HS9.out.2.2.2.1.cell 1 rfl
      have pf := fun j => HS9.out.2.2.2.1.frozen j
      go_wp2
      have HR := (HS9.out.2.2.2.1.set 0 (.int .i64 (qz))).set 1 (.int .i64 (y1))
      have HB5 : Below w.heap.size wk _ := ((Below.refl w.heap.size wk).setCell (p := ⟨w.heap.size, 0, none⟩) (Nat.le_refl _) (.int .i64 (qz))).setCell (p := ⟨w.heap.size, 1, none⟩) (Nat.le_refl _) (.int .i64 (y1))
      clear x0 x1 p0 p1 pf
      have c0 := HR.cell 0 rfl
      have c1 := HR.cell 1 rfl
      have HDe := HS9.out.2.1.below (HB5.mono hB)
      have HGe := gr_below HS9.out.2.2.1 HB5
      refine bodyPost_ret (v := .agg #[.int .i64 (qz), .int .i64 (y1)]) ?_ rfl ⟨⟨qz, y1⟩, rfl, HDe, HGe⟩
      generalize ((wk.setCell _ _).setCell _ _ : World) = W at *
      clear HB5 HR HDe HGe
      simp [results, Try.results20, go_sem, c0, c1]
    · have HSa : Hid (TS w (wk.alloc (.cells (([-1, 1000, 1001] : List Int).map (Value.int .i64)).toArray 3)) g B B4 w.heap.size (qz) y1) := HS9.out.alloc (.cells (([-1, 1000, 1001] : List Int).map (Value.int .i64)).toArray 3)
      have HZ : Hid ((wk.alloc (.cells (([-1, 1000, 1001] : List Int).map (Value.int .i64)).toArray 3)).heap[wk.heap.size]? = some (.cells (([-1, 1000, 1001] : List Int).map (Value.int .i64)).toArray 3 (0, 0))) := heap_alloc_new _ _
      have hne : wk.heap.size ≠ g := by have := HS9.out.2.1.lt'; omega
      clear HS9
      go_wp2_with fail
      refine (pick_d g wk.heap.size B [-1, 1000, 1001] _ HSa.out.2.1 HZ.out hne (by simp) (by simp)).mono ?_
      rintro e wp ⟨q, rfl, hq, HDa, HGa⟩
      have HSc : Hid (TS w wp g B B4 w.heap.size (qz) y1) := HSa.out.call HDa.out HGa.out
      clear HSa HZ HDa HGa hne
      have HSd : Hid (TS w (wp.setCell ⟨B4, 1, none⟩ (.int .i64 q)) g B B4 w.heap.size (qz) q) := HSc.out.set 1 _ rfl
      have s3 := HSc.out.1.cell 1 rfl
      have sf := HSc.out.1.frozen 1
      have x0 := HSd.out.1.cell 0 rfl
      have x1 := HSd.out.1.cell 1 rfl
      have p0 := HSd.out.2.2.2.1.cell 0 rfl
      have p1 := HSd.out.2.2.2.1.cell 1 rfl
      have pf := fun j => HSd.out.2.2.2.1.frozen j
      clear HSc
      go_wp2
      generalize wp.setCell ⟨B4, 1, none⟩ (Value.int IntKind.i64 q) = wl at *
      have HR := (HSd.out.2.2.2.1.set 0 (.int .i64 (qz))).set 1 (.int .i64 q)
      have HB5 : Below w.heap.size wl _ := ((Below.refl w.heap.size wl).setCell (p := ⟨w.heap.size, 0, none⟩) (Nat.le_refl _) (.int .i64 (qz))).setCell (p := ⟨w.heap.size, 1, none⟩) (Nat.le_refl _) (.int .i64 q)
      clear x0 x1 p0 p1 pf s3 sf
      have c0 := HR.cell 0 rfl
      have c1 := HR.cell 1 rfl
      have HDe := HSd.out.2.1.below (HB5.mono hB)
      have HGe := gr_below HSd.out.2.2.1 HB5
      refine bodyPost_ret (v := .agg #[.int .i64 (qz), .int .i64 q]) ?_ rfl ⟨⟨qz, q⟩, rfl, HDe, HGe⟩
      generalize ((wl.setCell _ _).setCell _ _ : World) = W at *
      clear HB5 HR HDe HGe
      simp [results, Try.results20, go_sem, c0, c1]
set_option maxHeartbeats 3200000 in
set_option maxRecDepth 100000 in
theorem at_d (g B : Nat) (w : World) (hd : DS w g B) (hB : B ≤ w.heap.size) :
    Calls Try.prog 21 #[.pointer (some ⟨g, 0, none⟩)] w fun e w' => ∃ x : Int, e = .returned (.int .i64 x) ∧ -1 ≤ x ∧ x ≤ 1000001 ∧ Hid (DS w' g B) ∧ Hid (w.grownBy w' (some g)) := by
  have HD0 : Hid (DS w g B) := hd
  clear hd
  go_enter Try.func21, Try.ntmps21
  go_wp2_with fail
  refine (once_d g B 10 _ HD0.out).mono ?_
  rintro e w1 ⟨b1, rfl, HD1, HG1⟩
  clear HD0
  have hs1 : B ≤ w1.heap.size := Nat.le_trans hB HG1.out.size
  rcases b1 with _ | _
  · go_wp2_with fail
    refine (below_d g B 150 _ HD1.out (by omega)).mono ?_
    rintro e w2 ⟨x, rfl, a0, a1, HD2, HG2⟩
    have HG : Hid (w.grownBy w2 (some g)) := grown_trans HG1.out HG2.out
    clear HG1 HG2 HD1
    go_wp2
    go_ret
    exact ⟨_, rfl, by omega, by omega, HD2, HG⟩
  · have HDa : Hid (DS (w1.alloc (.cells (([-1, 1000000, 1000001] : List Int).map (Value.int .i64)).toArray 3)) g B) := HD1.out.below ((Below.refl _ _).alloc hs1 _)
    have HZ : Hid ((w1.alloc (.cells (([-1, 1000000, 1000001] : List Int).map (Value.int .i64)).toArray 3)).heap[w1.heap.size]? = some (.cells (([-1, 1000000, 1000001] : List Int).map (Value.int .i64)).toArray 3 (0, 0))) := heap_alloc_new _ _
    have hne : w1.heap.size ≠ g := by have := HD1.out.lt'; omega
    have HGa : Hid (w.grownBy (w1.alloc (.cells (([-1, 1000000, 1000001] : List Int).map (Value.int .i64)).toArray 3)) (some g)) := grown_alloc' HG1.out _
    clear HD1 HG1
    go_wp2_with fail
    refine (pick_d g w1.heap.size B [-1, 1000000, 1000001] _ HDa.out HZ.out hne (by simp) (by simp)).mono ?_
    rintro e w2 ⟨q, rfl, hq, HD2, HG2⟩
    have HG : Hid (w.grownBy w2 (some g)) := grown_trans HGa.out HG2.out
    have hq' := hq.out
    simp at hq'
    clear HDa HZ HGa HG2 hne
    go_wp2
    go_ret
    exact ⟨_, rfl, by omega, by omega, HD2, HG⟩
end Go.Proofs.Ytkmmnjiflnllbaa
