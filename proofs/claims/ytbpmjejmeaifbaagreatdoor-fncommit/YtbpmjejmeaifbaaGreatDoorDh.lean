/- What spec.l7Head draws, as far as the laws ask; old memory stands but for the cursor. Conditions: a code of at most 2 to the 20 bytes. -/
import Derived.Test.YtbpmjejmeaifbaaGreatDoorMG
import Derived.Test.YtbpmjejmeaifbaaGreatDoorMC
import Derived.Test.YtbpmjejmeaifbaaGreatDoorME
import Derived.Test.YtbpmjejmeaifbaaGreatDoorHo
import Derived.Deep.DeepCutAuto
import Derived.Deep.CutBlock
namespace Go.Proofs.YtbpmjejmeaifbaaGreatDoor
open Go.RowKit
open Num
set_option linter.unusedVariables false
/-- What is drawn of a header, as far as it is asked. -/
def DrH (x : H) : Prop := 0 ≤ x.h ∧ x.h ≤ 1000001 ∧ -1 ≤ x.t ∧ x.t ≤ 1000001 ∧ x.a.size ≤ 40 ∧ x.v.size ≤ 40 ∧ x.n.size ≤ 40 ∧ x.d.size ≤ 40
theorem gr_below {w wx wy : World} {r : Option Nat} (h : w.grownBy wx r) (hb : Below w.heap.size wx wy) : w.grownBy wy r :=
  ⟨hb.os.trans h.os, hb.tape.trans h.tape, hb.output.trans h.output, Nat.le_trans h.size hb.size, fun k hk hne => (hb.block k hk).trans (h.block k hk hne)⟩
theorem grown_alloc' {a w : World} {r : Option Nat} (h : a.grownBy w r) (o : Obj) : a.grownBy (w.alloc o) r :=
  grown_trans h ⟨rfl, rfl, rfl, by simp, fun k hk _ => Below.heap_alloc w o k hk⟩
/-- A header that is being drawn: it lies in block b, the result's block c is as it was laid. -/
def HSt (w wx : World) (g B b c : Nat) (x : H) : Prop :=
  Blk wx b (hcs x).toList 26 ∧ DrH x ∧ DS wx g B ∧ w.grownBy wx (some g) ∧ Blk wx c [.int .i64 0, .int .i64 0, .string ⟨#[]⟩, .string ⟨#[]⟩, .string ⟨#[]⟩, .string ⟨#[]⟩] 26 ∧ w.heap.size ≤ b ∧ w.heap.size ≤ c ∧ b ≠ c ∧ g < w.heap.size ∧ B ≤ w.heap.size
theorem HSt.call {w wx wy : World} {g B b c : Nat} {x : H} (h : HSt w wx g B b c x) (hd : DS wy g B) (hg : wx.grownBy wy (some g)) : HSt w wy g B b c x := by
  obtain ⟨h1, h2, h3, h4, h5, h6, h7, h8, h9, h10⟩ := h
  exact ⟨h1.grown hg (by simp; omega), h2, hd, grown_trans h4 hg, h5.grown hg (by simp; omega), h6, h7, h8, h9, h10⟩
theorem HSt.below {w wx wy : World} {g B b c : Nat} {x : H} (h : HSt w wx g B b c x) (hb : Below wx.heap.size wx wy) : HSt w wy g B b c x := by
  obtain ⟨h1, h2, h3, h4, h5, h6, h7, h8, h9, h10⟩ := h
  have hs : w.heap.size ≤ wx.heap.size := h4.size
  refine ⟨h1.below hb h1.lt, h2, h3.below (hb.mono (by omega)), ⟨hb.os.trans h4.os, hb.tape.trans h4.tape, hb.output.trans h4.output, Nat.le_trans h4.size hb.size, fun k hk hne => ?_⟩, h5.below hb h5.lt, h6, h7, h8, h9, h10⟩
  rw [hb.block k (by omega)]; exact h4.block k hk hne
theorem HSt.alloc {w wx : World} {g B b c : Nat} {x : H} (h : HSt w wx g B b c x) (o : Obj) : HSt w (wx.alloc o) g B b c x := h.below ((Below.refl _ _).alloc (Nat.le_refl _) _)
theorem HSt.set {w wx : World} {g B b c : Nat} {x : H} (h : HSt w wx g B b c x) (k : Nat) (u : Value) (y : H) (hy : (hcs x).toList.set k u = (hcs y).toList) (hr : DrH y) : HSt w (wx.setCell ⟨b, k, none⟩ u) g B b c y := by
  obtain ⟨h1, h2, h3, h4, h5, h6, h7, h8, h9, h10⟩ := h
  refine ⟨hy ▸ h1.set k u, hr, h3.below ((Below.refl _ _).setCell (show B ≤ b by omega) u), ?_, h5.other k u (fun e => h8 e.symm), h6, h7, h8, h9, h10⟩
  exact ⟨h4.os, h4.tape, h4.output, by simpa using h4.size, fun j hj hne => (heap_setCell_other wx ⟨b, k, none⟩ j u (show j ≠ b by omega)).trans (h4.block j hj hne)⟩
set_option maxHeartbeats 3200000 in
set_option maxRecDepth 100000 in
theorem head_d (g B : Nat) (w : World) (hd : DS w g B) (hB : B ≤ w.heap.size) :
    Calls Tryz.prog 46 #[.pointer (some ⟨g, 0, none⟩)] w fun e w' => ∃ x : H, e = .returned (hV x) ∧ Hid (DrH x) ∧ Hid (DS w' g B) ∧ Hid (w.grownBy w' (some g)) := by
  have HC0 : Hid (Blk (w.alloc (.cells [.int .i64 0, .int .i64 0, .string ⟨#[]⟩, .string ⟨#[]⟩, .string ⟨#[]⟩, .string ⟨#[]⟩].toArray 26)) w.heap.size [.int .i64 0, .int .i64 0, .string ⟨#[]⟩, .string ⟨#[]⟩, .string ⟨#[]⟩, .string ⟨#[]⟩] 26) := blk_new w _ _
  have HD0 : Hid (DS (w.alloc (.cells [.int .i64 0, .int .i64 0, .string ⟨#[]⟩, .string ⟨#[]⟩, .string ⟨#[]⟩, .string ⟨#[]⟩].toArray 26)) g B) := hd.below ((Below.refl _ _).alloc hB _)
  have HG0 : Hid (w.grownBy (w.alloc (.cells [.int .i64 0, .int .i64 0, .string ⟨#[]⟩, .string ⟨#[]⟩, .string ⟨#[]⟩, .string ⟨#[]⟩].toArray 26)) (some g)) := grown_alloc' (grown_refl _ _) _
  have hg : g < w.heap.size := hd.lt'
  clear hd
  go_enter Tryz.func46, Tryz.ntmps46
  go_wp2_with fail
  generalize w.alloc (Obj.cells #[.int .i64 0, .int .i64 0, .string ⟨#[]⟩, .string ⟨#[]⟩, .string ⟨#[]⟩, .string ⟨#[]⟩] 26) = w0 at *
  refine (below_d g B 4 _ HD0.out (by omega)).mono ?_
  rintro e w1 ⟨y0, rfl, a0, a1, HD1, HG1⟩
  go_wp2_with fail
  refine (below_d g B 100 _ HD1.out (by omega)).mono ?_
  rintro e w2 ⟨y1, rfl, b0, b1, HD2, HG2⟩
  have HGa : Hid (w.grownBy w2 (some g)) := grown_trans (grown_trans HG0.out HG1.out) HG2.out
  have HCa : Hid (Blk w2 w.heap.size [.int .i64 0, .int .i64 0, .string ⟨#[]⟩, .string ⟨#[]⟩, .string ⟨#[]⟩, .string ⟨#[]⟩] 26) := (HC0.out.grown HG1.out (by simp; omega)).grown HG2.out (by simp; omega)
  clear HG0 HG1 HG2 HC0 HD0 HD1
  go_wp2_with fail
  refine (text_d g B 1 _ HD2.out (by omega) (by omega)).mono ?_
  rintro e w3 ⟨t0, rfl, hz0, HD3, HG3⟩
  have ht0 : t0.size ≤ 1099511627776 := by have := hz0.out; omega
  clear hz0 HD2
  have hq0 := size_shortB t0
  go_wp2_with fail
  refine (spec_short t0 w3 ht0).mono ?_
  rintro e w4 ⟨rfl, b4⟩
  have hs23 : w.heap.size ≤ w3.heap.size := Nat.le_trans HGa.out.size HG3.out.size
  have HGb : Hid (w.grownBy w4 (some g)) := gr_below (grown_trans HGa.out HG3.out) (b4.mono hs23)
  have HCb : Hid (Blk w4 w.heap.size [.int .i64 0, .int .i64 0, .string ⟨#[]⟩, .string ⟨#[]⟩, .string ⟨#[]⟩, .string ⟨#[]⟩] 26) := (HCa.out.grown HG3.out (by simp; omega)).below b4 (by have := HCa.out.lt; have := HG3.out.size; omega)
  have HD4 : Hid (DS w4 g B) := HD3.out.below (b4.mono (by omega))
  generalize shortB t0 = V0 at *
  clear b4 hs23 HGa HG3 HCa HD3 ht0
  go_wp2_with fail
  refine (text_d g B 1 _ HD4.out (by omega) (by omega)).mono ?_
  rintro e w5 ⟨t1, rfl, hz1, HD5, HG5⟩
  have ht1 : t1.size ≤ 1099511627776 := by have := hz1.out; omega
  clear hz1 HD4
  have hq1 := size_shortB t1
  go_wp2_with fail
  refine (spec_short t1 w5 ht1).mono ?_
  rintro e w6 ⟨rfl, b6⟩
  have hs45 : w.heap.size ≤ w5.heap.size := Nat.le_trans HGb.out.size HG5.out.size
  have HGc : Hid (w.grownBy w6 (some g)) := gr_below (grown_trans HGb.out HG5.out) (b6.mono hs45)
  have HCc : Hid (Blk w6 w.heap.size [.int .i64 0, .int .i64 0, .string ⟨#[]⟩, .string ⟨#[]⟩, .string ⟨#[]⟩, .string ⟨#[]⟩] 26) := (HCb.out.grown HG5.out (by simp; omega)).below b6 (by have := HCb.out.lt; have := HG5.out.size; omega)
  have HD6 : Hid (DS w6 g B) := HD5.out.below (b6.mono (by omega))
  generalize shortB t1 = N0 at *
  clear b6 hs45 HGb HG5 HCb HD5 ht1
  go_wp2_with fail
  refine (text_d g B 4 _ HD6.out (by omega) (by omega)).mono ?_
  rintro e w7 ⟨d0, rfl, hzd, HD7, HG7⟩
  have hd0 : d0.size ≤ 40 := by have := hzd.out; omega
  have HG5 : Hid (w.grownBy w7 (some g)) := grown_trans HGc.out HG7.out
  have HC5 : Hid (Blk w7 w.heap.size [.int .i64 0, .int .i64 0, .string ⟨#[]⟩, .string ⟨#[]⟩, .string ⟨#[]⟩, .string ⟨#[]⟩] 26) := HCc.out.grown HG7.out (by simp; omega)
  clear hzd HGc HG7 HCc HD6
  obtain ⟨B4, hB4⟩ : ∃ z, w7.heap.size = z := ⟨_, rfl⟩
  have HS : Hid (HSt w (w7.alloc (.cells (hcs ⟨1 + y0, y1, ⟨#[]⟩, V0, N0, d0⟩).toList.toArray 26)) g B w7.heap.size w.heap.size ⟨1 + y0, y1, ⟨#[]⟩, V0, N0, d0⟩) :=
    ⟨blk_new w7 _ _, ⟨by show 0 ≤ 1 + y0; omega, by show 1 + y0 ≤ _; omega, by show -1 ≤ y1; omega, by show y1 ≤ _; omega, by show 0 ≤ 40; omega, by show V0.size ≤ 40; omega, by show N0.size ≤ 40; omega, hd0⟩, HD7.out.below ((Below.refl _ _).alloc (by have := HG5.out.size; omega) _), grown_alloc' HG5.out _, HC5.out.alloc _, HG5.out.size, Nat.le_refl _, by have := HC5.out.lt; omega, hg, hB⟩
  unfold hcs at HS
  simp only at HS
  have x0 := HS.out.1.cell 0 rfl
  rw [hB4] at HS x0
  go_upto_if 20 with fail
  generalize w7.alloc (Obj.cells #[Value.int .i64 (1 + y0), Value.int .i64 y1, Value.string ⟨#[]⟩, Value.string V0, Value.string N0, Value.string d0] 26) = w8 at *
  try rw [hB4]
  clear HG5 HC5 HD7
  go_cut [] (fun wx => ∃ x : H, Hid (HSt w wx g B B4 w.heap.size x))
  case first =>
    by_cases hy1 : 1 < 1 + y0
    · have kA := fun W => spec_short ⟨#[97]⟩ W (by decide)
      have hsA := size_shortB ⟨#[97]⟩
      generalize shortB ⟨#[97]⟩ = A0 at *
      go_wp2_with fail
      refine (kA _).mono ?_
      rintro e w9 ⟨rfl, b9⟩
      have HS9 := HS.out.below b9
      have HS9' : Hid (HSt w w9 g B B4 w.heap.size ⟨1 + y0, y1, ⟨#[]⟩, V0, N0, d0⟩) := HS9
      have hx := HS9'.out.2.1
      have HQ : Hid (HSt w (w9.setCell ⟨B4, 2, none⟩ (.string A0)) g B B4 w.heap.size ⟨1 + y0, y1, A0, V0, N0, d0⟩) := HS9'.out.set 2 _ _ rfl ⟨hx.1, hx.2.1, hx.2.2.1, hx.2.2.2.1, by show A0.size ≤ 40; omega, hx.2.2.2.2.2.1, hx.2.2.2.2.2.2.1, hx.2.2.2.2.2.2.2⟩
      have s3 := HS9'.out.1.cell 2 rfl
      have sf := HS9'.out.1.frozen 2
      clear HS9 HS9' hx b9 x0 HS
      go_wp2_with fail
      go_meet
      exact ⟨_, HQ⟩
    · go_wp2_with fail
      go_meet
      exact ⟨_, HS⟩
  case rest =>
  obtain ⟨x, HS7⟩ := hcut
  rename World => wz
  clear HS x0 hB4
  go_wp2_with fail
  refine (once_d g B 8 _ HS7.out.2.2.1).mono ?_
  rintro e wy ⟨t, rfl, HD8, HG8⟩
  have HS8 : Hid (HSt w wy g B B4 w.heap.size x) := HS7.out.call HD8.out HG8.out
  clear HS7 HD8 HG8
  go_upto_if 24 with fail
  go_cut [] (fun wx => ∃ x : H, Hid (HSt w wx g B B4 w.heap.size x))
  case first =>
    rcases t with _ | _
    · go_wp2_with fail
      go_meet
      exact ⟨_, HS8⟩
    · go_wp2_with fail
      refine (below_d g B 5 _ HS8.out.2.2.1 (by omega)).mono ?_
      rintro e w9 ⟨y, rfl, e0, e1, HD9, HG9⟩
      have HS9 : Hid (HSt w w9 g B B4 w.heap.size x) := HS8.out.call HD9.out HG9.out
      clear HS8 HD9 HG9
      have hy : y = 0 ∨ y = 1 ∨ y = 2 ∨ y = 3 ∨ y = 4 := by omega
      clear e0 e1
      rcases hy with rfl | rfl | rfl | rfl | rfl
      · have HSa : Hid (HSt w (w9.alloc (.cells (([0, 1, 1000000, 1000001] : List Int).map (Value.int .i64)).toArray 3)) g B B4 w.heap.size x) := HS9.out.alloc _
        have HZ : Hid ((w9.alloc (.cells (([0, 1, 1000000, 1000001] : List Int).map (Value.int .i64)).toArray 3)).heap[w9.heap.size]? = some (.cells (([0, 1, 1000000, 1000001] : List Int).map (Value.int .i64)).toArray 3 (0, 0))) := heap_alloc_new _ _
        have hne : w9.heap.size ≠ g := by have := HS9.out.2.2.1.lt'; omega
        clear HS9
        go_wp2_with fail
        refine (pick_d g w9.heap.size B [0, 1, 1000000, 1000001] _ HSa.out.2.2.1 HZ.out hne (by simp) (by simp)).mono ?_
        rintro e wa ⟨p, rfl, hp, HDa, HGa⟩
        have HSb : Hid (HSt w wa g B B4 w.heap.size x) := HSa.out.call HDa.out HGa.out
        clear HSa HZ HDa HGa
        have hx := HSb.out.2.1
        have HQ : Hid (HSt w (wa.setCell ⟨B4, 0, none⟩ (.int .i64 p)) g B B4 w.heap.size ⟨p, x.t, x.a, x.v, x.n, x.d⟩) := HSb.out.set 0 _ _ rfl ⟨by have := hp.out; simp at this; show 0 ≤ p; omega, by have := hp.out; simp at this; show p ≤ 1000001; omega, hx.2.2.1, hx.2.2.2.1, hx.2.2.2.2.1, hx.2.2.2.2.2.1, hx.2.2.2.2.2.2.1, hx.2.2.2.2.2.2.2⟩
        have s3 := HSb.out.1.cell 0 rfl
        have sf := HSb.out.1.frozen 0
        clear HSb hx
        go_wp2_with fail
        go_meet
        exact ⟨_, HQ⟩
      · have HSa : Hid (HSt w (w9.alloc (.cells (([-1, 1000000, 1000001] : List Int).map (Value.int .i64)).toArray 3)) g B B4 w.heap.size x) := HS9.out.alloc _
        have HZ : Hid ((w9.alloc (.cells (([-1, 1000000, 1000001] : List Int).map (Value.int .i64)).toArray 3)).heap[w9.heap.size]? = some (.cells (([-1, 1000000, 1000001] : List Int).map (Value.int .i64)).toArray 3 (0, 0))) := heap_alloc_new _ _
        have hne : w9.heap.size ≠ g := by have := HS9.out.2.2.1.lt'; omega
        clear HS9
        go_wp2_with fail
        refine (pick_d g w9.heap.size B [-1, 1000000, 1000001] _ HSa.out.2.2.1 HZ.out hne (by simp) (by simp)).mono ?_
        rintro e wa ⟨p, rfl, hp, HDa, HGa⟩
        have HSb : Hid (HSt w wa g B B4 w.heap.size x) := HSa.out.call HDa.out HGa.out
        clear HSa HZ HDa HGa
        have hx := HSb.out.2.1
        have HQ : Hid (HSt w (wa.setCell ⟨B4, 1, none⟩ (.int .i64 p)) g B B4 w.heap.size ⟨x.h, p, x.a, x.v, x.n, x.d⟩) := HSb.out.set 1 _ _ rfl ⟨hx.1, hx.2.1, by have := hp.out; simp at this; show -1 ≤ p; omega, by have := hp.out; simp at this; show p ≤ 1000001; omega, hx.2.2.2.2.1, hx.2.2.2.2.2.1, hx.2.2.2.2.2.2.1, hx.2.2.2.2.2.2.2⟩
        have s3 := HSb.out.1.cell 1 rfl
        have sf := HSb.out.1.frozen 1
        clear HSb hx
        go_wp2_with fail
        go_meet
        exact ⟨_, HQ⟩
      · go_wp2_with fail
        refine (text_d g B 9 _ HS9.out.2.2.1 (by omega) (by omega)).mono ?_
        rintro e wa ⟨p, rfl, hp, HDa, HGa⟩
        have HSb : Hid (HSt w wa g B B4 w.heap.size x) := HS9.out.call HDa.out HGa.out
        clear HS9 HDa HGa
        have hx := HSb.out.2.1
        have HQ : Hid (HSt w (wa.setCell ⟨B4, 2, none⟩ (.string p)) g B B4 w.heap.size ⟨x.h, x.t, p, x.v, x.n, x.d⟩) := HSb.out.set 2 _ _ rfl ⟨hx.1, hx.2.1, hx.2.2.1, hx.2.2.2.1, by have := hp.out; show p.size ≤ 40; omega, hx.2.2.2.2.2.1, hx.2.2.2.2.2.2.1, hx.2.2.2.2.2.2.2⟩
        have s3 := HSb.out.1.cell 2 rfl
        have sf := HSb.out.1.frozen 2
        clear HSb hx
        go_wp2_with fail
        go_meet
        exact ⟨_, HQ⟩
      · go_wp2_with fail
        refine (text_d g B 9 _ HS9.out.2.2.1 (by omega) (by omega)).mono ?_
        rintro e wa ⟨p, rfl, hp, HDa, HGa⟩
        have HSb : Hid (HSt w wa g B B4 w.heap.size x) := HS9.out.call HDa.out HGa.out
        clear HS9 HDa HGa
        have hx := HSb.out.2.1
        have HQ : Hid (HSt w (wa.setCell ⟨B4, 4, none⟩ (.string p)) g B B4 w.heap.size ⟨x.h, x.t, x.a, x.v, p, x.d⟩) := HSb.out.set 4 _ _ rfl ⟨hx.1, hx.2.1, hx.2.2.1, hx.2.2.2.1, hx.2.2.2.2.1, hx.2.2.2.2.2.1, by have := hp.out; show p.size ≤ 40; omega, hx.2.2.2.2.2.2.2⟩
        have s3 := HSb.out.1.cell 4 rfl
        have sf := HSb.out.1.frozen 4
        clear HSb hx
        go_wp2_with fail
        go_meet
        exact ⟨_, HQ⟩
      · go_wp2_with fail
        refine (text_d g B 1 _ HS9.out.2.2.1 (by omega) (by omega)).mono ?_
        rintro e wa ⟨p, rfl, hp, HDa, HGa⟩
        have HSb : Hid (HSt w wa g B B4 w.heap.size x) := HS9.out.call HDa.out HGa.out
        clear HS9 HDa HGa
        have hx := HSb.out.2.1
        have hps := hp.out
        have hno : ¬ 9223372036854775807 < (⟨#[97, 97, 97, 97, 97, 97, 97, 97, 97, 97, 97, 97, 97, 97, 97, 97, 97, 97, 97, 97]⟩ : ByteArray).size + p.size := by show ¬ 9223372036854775807 < 20 + p.size; omega
        have HQ : Hid (HSt w (wa.setCell ⟨B4, 5, none⟩ (.string (⟨#[97, 97, 97, 97, 97, 97, 97, 97, 97, 97, 97, 97, 97, 97, 97, 97, 97, 97, 97, 97]⟩ ++ p))) g B B4 w.heap.size ⟨x.h, x.t, x.a, x.v, x.n, ⟨#[97, 97, 97, 97, 97, 97, 97, 97, 97, 97, 97, 97, 97, 97, 97, 97, 97, 97, 97, 97]⟩ ++ p⟩) := HSb.out.set 5 _ _ rfl ⟨hx.1, hx.2.1, hx.2.2.1, hx.2.2.2.1, hx.2.2.2.2.1, hx.2.2.2.2.2.1, hx.2.2.2.2.2.2.1, by show ByteArray.size _ ≤ 40; rw [ByteArray.size_append]; show 20 + p.size ≤ 40; omega⟩
        have s3 := HSb.out.1.cell 5 rfl
        have sf := HSb.out.1.frozen 5
        clear HSb hx hps
        go_wp2_with fail
        go_meet
        exact ⟨_, HQ⟩
  case rest =>
  obtain ⟨x, HSe⟩ := hcut
  rename World => we
  clear HS8
  obtain ⟨E1, E2, E3, E4, E5, E6, E7, E8, E9, E10⟩ := HSe.out
  obtain ⟨h, t', a', v', n', d'⟩ := x
  have HE1 : Hid (Blk we B4 [.int .i64 h, .int .i64 t', .string a', .string v', .string n', .string d'] 26) := E1
  have HE2 : Hid (DrH ⟨h, t', a', v', n', d'⟩) := E2
  have HE5 : Hid (Blk we w.heap.size [.int .i64 0, .int .i64 0, .string ⟨#[]⟩, .string ⟨#[]⟩, .string ⟨#[]⟩, .string ⟨#[]⟩] 26) := E5
  have HE3 : Hid (DS we g B) := E3
  have HE4 : Hid (w.grownBy we (some g)) := E4
  have x0 := HE1.out.cell 0 rfl
  have x1 := HE1.out.cell 1 rfl
  have x2 := HE1.out.cell 2 rfl
  have x3 := HE1.out.cell 3 rfl
  have x4 := HE1.out.cell 4 rfl
  have x5 := HE1.out.cell 5 rfl
  have p0 := HE5.out.cell 0 rfl
  have p1 := HE5.out.cell 1 rfl
  have p2 := HE5.out.cell 2 rfl
  have p3 := HE5.out.cell 3 rfl
  have p4 := HE5.out.cell 4 rfl
  have p5 := HE5.out.cell 5 rfl
  have pf := fun j => HE5.out.frozen j
  clear E1 E2 E3 E4 E5 E6 E7 E8 E9 E10
  go_wp2
  have HR5 := (((((HE5.out.set 0 (.int .i64 h)).set 1 (.int .i64 t')).set 2 (.string a')).set 3 (.string v')).set 4 (.string n')).set 5 (.string d')
  have HB5 : Below w.heap.size we _ := ((((((Below.refl w.heap.size we).setCell (p := ⟨w.heap.size, 0, none⟩) (Nat.le_refl _) (.int .i64 h)).setCell (p := ⟨w.heap.size, 1, none⟩) (Nat.le_refl _) (.int .i64 t')).setCell (p := ⟨w.heap.size, 2, none⟩) (Nat.le_refl _) (.string a')).setCell (p := ⟨w.heap.size, 3, none⟩) (Nat.le_refl _) (.string v')).setCell (p := ⟨w.heap.size, 4, none⟩) (Nat.le_refl _) (.string n')).setCell (p := ⟨w.heap.size, 5, none⟩) (Nat.le_refl _) (.string d')
  clear x0 x1 x2 x3 x4 x5 p0 p1 p2 p3 p4 p5
  have y0 := HR5.cell 0 rfl
  have y1 := HR5.cell 1 rfl
  have y2 := HR5.cell 2 rfl
  have y3 := HR5.cell 3 rfl
  have y4 := HR5.cell 4 rfl
  have y5 := HR5.cell 5 rfl
  have HDe := HE3.out.below (HB5.mono hB)
  have HGe := gr_below HE4.out HB5
  refine bodyPost_ret (v := .agg #[.int .i64 h, .int .i64 t', .string a', .string v', .string n', .string d']) ?_ rfl ⟨⟨h, t', a', v', n', d'⟩, rfl, HE2, HDe, HGe⟩
  generalize ((((((we.setCell _ _).setCell _ _).setCell _ _).setCell _ _).setCell _ _).setCell _ _ : World) = W at *
  clear HB5 HR5 HDe HGe
  simp [results, Tryz.results46, go_sem, y0, y1, y2, y3, y4, y5]
end Go.Proofs.YtbpmjejmeaifbaaGreatDoor
