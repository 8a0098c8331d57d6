/- What spec.l11Anchor draws, as far as the law asks; old memory stays but for the cursor. Conditions: a code of at most 2 to the 20 bytes. What spec.l6Any draws; old memory stands but for the cursor. Conditions: a code of at most 2 to the 20 bytes. What spec.l11Next draws, as far as the law asks; old memory stays but for the cursor. Conditions: a code of at most 2 to the 20 bytes. What spec.DrawVerify draws, as far as FnVerify asks; old memory stays. Conditions: a code of at most 2 to the 20 bytes. -/
import Derived.Test.YtajfmjgaaapjeaaGreatDoorHB
import Derived.Test.YtajfmjgaaapjeaaGreatDoorAn
import Derived.Test.YtajfmjgaaapjeaaGreatDoorVc
import Derived.Test.YtajfmjgaaapjeaaGreatDoorGA
import Derived.Test.YtajfmjgaaapjeaaGreatDoorHq
import Derived.Deep.AppendLies
namespace Go.Proofs.YtajfmjgaaapjeaaGreatDoor
open Go.RowKit
open Num
set_option linter.unusedVariables false
/-- What is drawn of a header of this chapter, as far as it is asked. -/
def DrX (x : H) : Prop := 0 ≤ x.h ∧ x.h ≤ 1000 ∧ 0 ≤ x.t ∧ x.t ≤ 1000 ∧ x.a.size ≤ 40 ∧ x.v.size ≤ 40 ∧ x.n.size ≤ 40 ∧ x.d.size ≤ 40
/-- A drawn row that lies behind B and below the world's end. -/
def DrR (w : World) (lo : Nat) (u : Option Addr) (cu : Nat) (l : List V) : Prop := VO w u l ∧ l.length ≤ 8 ∧ (u = none → cu = 0) ∧ ∀ b o, u = some ⟨b, o, none⟩ → lo ≤ b ∧ b < w.heap.size
theorem DrR.call {w w' : World} {lo g cu : Nat} {u : Option Addr} {l : List V} (h : DrR w lo u cu l) (hg : w.grownBy w' (some g)) (hlo : g < lo) : DrR w' lo u cu l :=
  ⟨h.1.gr (B := 0) hg (fun b o e => by have := h.2.2.2 b o e; omega), h.2.1, h.2.2.1, fun b o e => by have := h.2.2.2 b o e; have := hg.size; omega⟩
theorem DrR.below {w w' : World} {lo cu : Nat} {u : Option Addr} {l : List V} (h : DrR w lo u cu l) (hb : Below w.heap.size w w') : DrR w' lo u cu l :=
  ⟨h.1.below hb, h.2.1, h.2.2.1, fun b o e => by have := h.2.2.2 b o e; have := hb.size; omega⟩
theorem DrR.set {w : World} {lo cu g : Nat} {u : Option Addr} {l : List V} (h : DrR w lo u cu l) (j : Nat) (x : Value) (hne : ∀ b o, u = some ⟨b, o, none⟩ → b ≠ g) : DrR (w.setCell ⟨g, j, none⟩ x) lo u cu l :=
  ⟨h.1.gr (B := 0) (gr_set w g j x) hne, h.2.1, h.2.2.1, fun b o e => by have := h.2.2.2 b o e; simpa [World.setCell] using this⟩
theorem OwnV.dr {w : World} {B : Nat} {v : Value} {l : List V} (h : OwnV w B v l) (h8 : l.length ≤ 8) : ∃ u cu, v = .slice u l.length cu ∧ DrR w B u cu l := by
  obtain ⟨a, cap, hv, ho, hn, hb⟩ := h.nn
  exact ⟨a, cap, hv, ho, h8, hn, hb⟩
set_option maxHeartbeats 3200000 in
set_option maxRecDepth 100000 in
theorem anchor_d (g B : Nat) (w : World) (hd : DS w g B) (hB : B ≤ w.heap.size) :
    Calls Tryz.prog 32 #[.pointer (some ⟨g, 0, none⟩)] w fun e w' => ∃ (y : H) (l : List V) (u : Option Addr) (cu : Nat), e = .returned (aV y (.slice u l.length cu)) ∧ Hid (DrX y) ∧ Hid (DrR w' w.heap.size u cu l) ∧ Hid (DS w' g B) ∧ Hid (w.grownBy w' (some g)) := by
  have hgw : g < w.heap.size := hd.lt'
  obtain ⟨w0, hw0⟩ : ∃ W, w.alloc (.cells [.int .i64 0, .int .i64 0, .string ⟨#[]⟩, .string ⟨#[]⟩, .string ⟨#[]⟩, .string ⟨#[]⟩, .slice none 0 0].toArray 30) = W := ⟨_, rfl⟩
  have P0 : Hid (Blk w0 w.heap.size [.int .i64 0, .int .i64 0, .string ⟨#[]⟩, .string ⟨#[]⟩, .string ⟨#[]⟩, .string ⟨#[]⟩, .slice none 0 0] 30) := by rw [← hw0]; exact blk_new w _ _
  have hb0 : Below w.heap.size w w0 := by rw [← hw0]; exact below_one _ _
  have D0 : Hid (DS w0 g B) := hd.below (hb0.mono hB)
  have G0 : Hid (w.grownBy w0 (some g)) := gr_below (gr_refl w _) hb0
  clear hd hb0
  go_enter Tryz.func32, Tryz.ntmps32
  go_wp2_with fail
  try rw [hw0]
  refine (some_d g B w0 D0.out (by have := G0.out.size; omega)).mono ?_
  rintro e w1 ⟨v, l, rfl, HV, HL, HD, HG⟩
  clear hw0
  obtain ⟨u, cu, rfl, HVd⟩ := OwnV.dr HV.out (by have := HL.out.2.1; omega)
  have hl4 : l.length ≤ 4 := HL.out.2.1
  have HV0 : Hid (DrR w1 w.heap.size u cu l) := ⟨HVd.1, HVd.2.1, HVd.2.2.1, fun b o e => by have := HVd.2.2.2 b o e; have := G0.out.size; omega⟩
  have hvlo : Hid (∀ b o, u = some ⟨b, o, none⟩ → w.heap.size < b) := fun b o e => by have := HVd.2.2.2 b o e; have := P0.out.lt; omega
  clear HV HL HVd
  have D_1 : Hid (DS w1 g B) := HD
  have G_1 : Hid (w.grownBy w1 (some g)) := grown_trans G0.out HG.out
  have P_1 : Hid (Blk w1 w.heap.size [.int .i64 0, .int .i64 0, .string ⟨#[]⟩, .string ⟨#[]⟩, .string ⟨#[]⟩, .string ⟨#[]⟩, .slice none 0 0] 30) := P0.out.grown HG.out (by simp; omega)
  clear D0 G0 P0 HG HD
  go_wp2_with fail
  refine (below_d g B 3 _ D_1.out (by omega)).mono ?_
  rintro e w2 ⟨x0, rfl, xa0, xb0, HD, HG⟩
  have D_2 : Hid (DS w2 g B) := HD
  have G_2 : Hid (w.grownBy w2 (some g)) := grown_trans G_1.out HG.out
  have P_2 : Hid (Blk w2 w.heap.size [.int .i64 0, .int .i64 0, .string ⟨#[]⟩, .string ⟨#[]⟩, .string ⟨#[]⟩, .string ⟨#[]⟩, .slice none 0 0] 30) := P_1.out.grown HG.out (by simp; omega)
  have V_2 : Hid (DrR w2 w.heap.size u cu l) := HV0.out.call HG.out hgw
  clear D_1 G_1 P_1 HV0 HG HD
  go_wp2_with fail
  refine (below_d g B 60 _ D_2.out (by omega)).mono ?_
  rintro e w3 ⟨x1, rfl, xa1, xb1, HD, HG⟩
  have D_3 : Hid (DS w3 g B) := HD
  have G_3 : Hid (w.grownBy w3 (some g)) := grown_trans G_2.out HG.out
  have P_3 : Hid (Blk w3 w.heap.size [.int .i64 0, .int .i64 0, .string ⟨#[]⟩, .string ⟨#[]⟩, .string ⟨#[]⟩, .string ⟨#[]⟩, .slice none 0 0] 30) := P_2.out.grown HG.out (by simp; omega)
  have V_3 : Hid (DrR w3 w.heap.size u cu l) := V_2.out.call HG.out hgw
  clear D_2 G_2 P_2 V_2 HG HD
  go_wp2_with fail
  refine (some_d g B w3 D_3.out (by have := G_3.out.size; omega)).mono ?_
  rintro e w4 ⟨v2, l2, rfl, HV2, HL2, HD, HG⟩
  obtain ⟨u2, cu2, rfl, HVd2⟩ := OwnV.dr HV2.out (by have := HL2.out.2.1; omega)
  have hl24 : l2.length ≤ 4 := HL2.out.2.1
  have HVz2 : Hid (DrR w4 w.heap.size u2 cu2 l2) := ⟨HVd2.1, HVd2.2.1, HVd2.2.2.1, fun b o e => by have := HVd2.2.2.2 b o e; have := G_3.out.size; omega⟩
  clear HV2 HL2 HVd2
  have D_4 : Hid (DS w4 g B) := HD
  have G_4 : Hid (w.grownBy w4 (some g)) := grown_trans G_3.out HG.out
  have P_4 : Hid (Blk w4 w.heap.size [.int .i64 0, .int .i64 0, .string ⟨#[]⟩, .string ⟨#[]⟩, .string ⟨#[]⟩, .string ⟨#[]⟩, .slice none 0 0] 30) := P_3.out.grown HG.out (by simp; omega)
  have V_4 : Hid (DrR w4 w.heap.size u cu l) := V_3.out.call HG.out hgw
  clear D_3 G_3 P_3 V_3 HG HD
  go_wp2_with fail
  refine (spec_vhash u2 l2 cu2 _ HVz2.out.1 (by omega)).mono ?_
  rintro e w5 ⟨rfl, bb⟩
  have D_5 : Hid (DS w5 g B) := D_4.out.below (bb.mono (by have := G_4.out.size; omega))
  have G_5 : Hid (w.grownBy w5 (some g)) := gr_below G_4.out (bb.mono G_4.out.size)
  have P_5 : Hid (Blk w5 w.heap.size [.int .i64 0, .int .i64 0, .string ⟨#[]⟩, .string ⟨#[]⟩, .string ⟨#[]⟩, .string ⟨#[]⟩, .slice none 0 0] 30) := P_4.out.below bb P_4.out.lt
  have V_5 : Hid (DrR w5 w.heap.size u cu l) := V_4.out.below bb
  have V2_5 : Hid (DrR w5 w.heap.size u2 cu2 l2) := HVz2.out.below bb
  clear D_4 G_4 P_4 V_4 HVz2 bb
  clear V2_5
  have hh2 : (hashV l2).size ≤ 8 := size_hashV l2
  generalize hashV l2 = S2 at *
  go_wp2_with fail
  refine (spec_vhash u l cu _ V_5.out.1 (by omega)).mono ?_
  rintro e w6 ⟨rfl, bb⟩
  have D_6 : Hid (DS w6 g B) := D_5.out.below (bb.mono (by have := G_5.out.size; omega))
  have G_6 : Hid (w.grownBy w6 (some g)) := gr_below G_5.out (bb.mono G_5.out.size)
  have P_6 : Hid (Blk w6 w.heap.size [.int .i64 0, .int .i64 0, .string ⟨#[]⟩, .string ⟨#[]⟩, .string ⟨#[]⟩, .string ⟨#[]⟩, .slice none 0 0] 30) := P_5.out.below bb P_5.out.lt
  have V_6 : Hid (DrR w6 w.heap.size u cu l) := V_5.out.below bb
  clear D_5 G_5 P_5 V_5 bb
  have hh1 : (hashV l).size ≤ 8 := size_hashV l
  generalize hashV l = S1 at *
  go_wp2_with fail
  refine (text_d g B 3 _ D_6.out (by omega) (by omega)).mono ?_
  rintro e w7 ⟨tx, rfl, htx, HD, HG⟩
  have htz : tx.size ≤ 3 := by have := htx.out; omega
  clear htx
  have D_7 : Hid (DS w7 g B) := HD
  have G_7 : Hid (w.grownBy w7 (some g)) := grown_trans G_6.out HG.out
  have P_7 : Hid (Blk w7 w.heap.size [.int .i64 0, .int .i64 0, .string ⟨#[]⟩, .string ⟨#[]⟩, .string ⟨#[]⟩, .string ⟨#[]⟩, .slice none 0 0] 30) := P_6.out.grown HG.out (by simp; omega)
  have V_7 : Hid (DrR w7 w.heap.size u cu l) := V_6.out.call HG.out hgw
  clear D_6 G_6 P_6 V_6 HG HD
  obtain ⟨w8, hw8⟩ : ∃ W, w7.alloc (.cells [.int .i64 (1 + x0), .int .i64 x1, .string ⟨#[]⟩, .string S2, .string S1, .string tx].toArray 27) = W := ⟨_, rfl⟩
  obtain ⟨b6, hb6⟩ : ∃ b, w7.heap.size = b := ⟨_, rfl⟩
  have bz : Below w7.heap.size w7 w8 := by rw [← hw8]; exact below_one _ _
  have H6 : Hid (Blk w8 b6 [.int .i64 (1 + x0), .int .i64 x1, .string ⟨#[]⟩, .string S2, .string S1, .string tx] 27) := by rw [← hw8, ← hb6]; exact blk_new w7 [.int .i64 (1 + x0), .int .i64 x1, .string ⟨#[]⟩, .string S2, .string S1, .string tx] _
  have h6w : w.heap.size < b6 := by have := P_7.out.lt; omega
  have h6v : Hid (∀ b o, u = some ⟨b, o, none⟩ → b ≠ b6) := fun b o e => by have := V_7.out.2.2.2 b o e; omega
  have D_8 : Hid (DS w8 g B) := D_7.out.below (bz.mono (by have := G_7.out.size; omega))
  have G_8 : Hid (w.grownBy w8 (some g)) := gr_below G_7.out (bz.mono G_7.out.size)
  have P_8 : Hid (Blk w8 w.heap.size [.int .i64 0, .int .i64 0, .string ⟨#[]⟩, .string ⟨#[]⟩, .string ⟨#[]⟩, .string ⟨#[]⟩, .slice none 0 0] 30) := P_7.out.below bz P_7.out.lt
  have V_8 : Hid (DrR w8 w.heap.size u cu l) := V_7.out.below bz
  clear D_7 G_7 P_7 V_7 bz
  by_cases hx : (1 : Int) < 1 + x0
  · have y0 := H6.out.cell 0 rfl
    have y1 := H6.out.cell 1 rfl
    have y2 := H6.out.cell 2 rfl
    have y3 := H6.out.cell 3 rfl
    have y4 := H6.out.cell 4 rfl
    have y5 := H6.out.cell 5 rfl
    have fy := H6.out.frozen 2
    go_wp2_with fail
    try rw [hw8]
    try rw [hb6]
    refine (spec_short ⟨#[98]⟩ _ (by decide)).mono ?_
    rintro e wa ⟨rfl, bb⟩
    have hsb := size_shortB (⟨#[98]⟩ : ByteArray)
    generalize shortB (⟨#[98]⟩ : ByteArray) = SB at *
    have H6a : Hid (Blk wa b6 [.int .i64 (1 + x0), .int .i64 x1, .string ⟨#[]⟩, .string S2, .string S1, .string tx] 27) := H6.out.below bb H6.out.lt
    clear y0 y1 y2 y3 y4 y5 fy H6 hw8 hb6
    have D_9 : Hid (DS wa g B) := D_8.out.below (bb.mono (by have := G_8.out.size; omega))
    have G_9 : Hid (w.grownBy wa (some g)) := gr_below G_8.out (bb.mono G_8.out.size)
    have P_9 : Hid (Blk wa w.heap.size [.int .i64 0, .int .i64 0, .string ⟨#[]⟩, .string ⟨#[]⟩, .string ⟨#[]⟩, .string ⟨#[]⟩, .slice none 0 0] 30) := P_8.out.below bb P_8.out.lt
    have V_9 : Hid (DrR wa w.heap.size u cu l) := V_8.out.below bb
    clear D_8 G_8 P_8 V_8 bb
    have y0 := H6a.out.cell 0 rfl
    have y1 := H6a.out.cell 1 rfl
    have y2 := H6a.out.cell 2 rfl
    have y3 := H6a.out.cell 3 rfl
    have y4 := H6a.out.cell 4 rfl
    have y5 := H6a.out.cell 5 rfl
    have fy := H6a.out.frozen 2
    obtain ⟨wb, hwb⟩ : ∃ W, wa.setCell ⟨b6, 2, none⟩ (.string SB) = W := ⟨_, rfl⟩
    have bq : Below b6 wa wb := by rw [← hwb]; exact (Below.refl _ _).setCell (p := ⟨b6, 2, none⟩) (Nat.le_refl _) _
    have H6b : Hid (Blk wb b6 [.int .i64 (1 + x0), .int .i64 x1, .string SB, .string S2, .string S1, .string tx] 27) := by rw [← hwb]; exact H6a.out.set 2 _
    have Pb : Hid (Blk wb w.heap.size [.int .i64 0, .int .i64 0, .string ⟨#[]⟩, .string ⟨#[]⟩, .string ⟨#[]⟩, .string ⟨#[]⟩, .slice none 0 0] 30) := by rw [← hwb]; exact P_9.out.other 2 _ (by omega)
    have Db : Hid (DS wb g B) := D_9.out.below (bq.mono (by omega))
    have Gb : Hid (w.grownBy wb (some g)) := gr_below G_9.out (bq.mono (by omega))
    have Vb : Hid (DrR wb w.heap.size u cu l) := by rw [← hwb]; exact V_9.out.set 2 _ h6v.out
    clear H6a bq P_9 D_9 G_9 V_9
    have HXX : Hid (DrX ⟨1 + x0, x1, SB, S2, S1, tx⟩) := ⟨by show 0 ≤ 1 + x0; omega, by show 1 + x0 ≤ 1000; omega, by show 0 ≤ x1; omega, by show x1 ≤ 1000; omega, by show SB.size ≤ 40; omega, by show S2.size ≤ 40; omega, by show S1.size ≤ 40; omega, by show tx.size ≤ 40; omega⟩
    have y0 := H6b.out.cell 0 rfl
    have y1 := H6b.out.cell 1 rfl
    have y2 := H6b.out.cell 2 rfl
    have y3 := H6b.out.cell 3 rfl
    have y4 := H6b.out.cell 4 rfl
    have y5 := H6b.out.cell 5 rfl
    have z0 := Pb.out.cell 0 rfl
    have z1 := Pb.out.cell 1 rfl
    have z2 := Pb.out.cell 2 rfl
    have z3 := Pb.out.cell 3 rfl
    have z4 := Pb.out.cell 4 rfl
    have z5 := Pb.out.cell 5 rfl
    have z6 := Pb.out.cell 6 rfl
    have f0 := Pb.out.frozen 0
    have f1 := Pb.out.frozen 1
    have f2 := Pb.out.frozen 2
    have f3 := Pb.out.frozen 3
    have f4 := Pb.out.frozen 4
    have f5 := Pb.out.frozen 5
    have f6 := Pb.out.frozen 6
    obtain ⟨w9, hw9⟩ : ∃ W, (((((((wb).setCell ⟨w.heap.size, 0, none⟩ (.int .i64 (1 + x0))).setCell ⟨w.heap.size, 1, none⟩ (.int .i64 x1)).setCell ⟨w.heap.size, 2, none⟩ (.string SB)).setCell ⟨w.heap.size, 3, none⟩ (.string S2)).setCell ⟨w.heap.size, 4, none⟩ (.string S1)).setCell ⟨w.heap.size, 5, none⟩ (.string tx)).setCell ⟨w.heap.size, 6, none⟩ (.slice u l.length cu) = W := ⟨_, rfl⟩
    have hvc : Hid (∀ b o, u = some ⟨b, o, none⟩ → b ≠ w.heap.size) := fun b o e => by have := hvlo.out b o e; omega
    have PF : Hid (Blk w9 w.heap.size [.int .i64 (1 + x0), .int .i64 x1, .string SB, .string S2, .string S1, .string tx, .slice u l.length cu] 30) := by rw [← hw9]; exact (((((((Pb.out.set 0 _).set 1 _).set 2 _).set 3 _).set 4 _).set 5 _).set 6 _)
    have bF : Below w.heap.size wb w9 := by rw [← hw9]; exact ((((((((Below.refl w.heap.size wb).setCell (p := ⟨w.heap.size, 0, none⟩) (Nat.le_refl _) _).setCell (p := ⟨w.heap.size, 1, none⟩) (Nat.le_refl _) _).setCell (p := ⟨w.heap.size, 2, none⟩) (Nat.le_refl _) _).setCell (p := ⟨w.heap.size, 3, none⟩) (Nat.le_refl _) _).setCell (p := ⟨w.heap.size, 4, none⟩) (Nat.le_refl _) _).setCell (p := ⟨w.heap.size, 5, none⟩) (Nat.le_refl _) _).setCell (p := ⟨w.heap.size, 6, none⟩) (Nat.le_refl _) _)
    have DF : Hid (DS w9 g B) := Db.out.below (bF.mono hB)
    have GF : Hid (w.grownBy w9 (some g)) := gr_below Gb.out bF
    have VF : Hid (DrR w9 w.heap.size u cu l) := by rw [← hw9]; exact (((((((Vb.out.set 0 _ hvc.out).set 1 _ hvc.out).set 2 _ hvc.out).set 3 _ hvc.out).set 4 _ hvc.out).set 5 _ hvc.out).set 6 _ hvc.out)
    clear Pb Db Gb Vb H6b bF
    have r0 := PF.out.cell 0 rfl
    have r1 := PF.out.cell 1 rfl
    have r2 := PF.out.cell 2 rfl
    have r3 := PF.out.cell 3 rfl
    have r4 := PF.out.cell 4 rfl
    have r5 := PF.out.cell 5 rfl
    have r6 := PF.out.cell 6 rfl
    go_wp2
    try rw [hwb]
    try rw [hw9]
    refine bodyPost_ret (v := .agg #[.int .i64 (1 + x0), .int .i64 x1, .string SB, .string S2, .string S1, .string tx, .slice u l.length cu]) ?_ rfl ⟨⟨(1 + x0), x1, SB, S2, S1, tx⟩, l, u, cu, rfl, HXX, VF, DF, GF⟩
    simp [results, Tryz.results32, go_sem, r0, r1, r2, r3, r4, r5, r6]
  · have HXX : Hid (DrX ⟨1 + x0, x1, ⟨#[]⟩, S2, S1, tx⟩) := ⟨by show 0 ≤ 1 + x0; omega, by show 1 + x0 ≤ 1000; omega, by show 0 ≤ x1; omega, by show x1 ≤ 1000; omega, by show (⟨#[]⟩ : ByteArray).size ≤ 40; decide, by show S2.size ≤ 40; omega, by show S1.size ≤ 40; omega, by show tx.size ≤ 40; omega⟩
    have y0 := H6.out.cell 0 rfl
    have y1 := H6.out.cell 1 rfl
    have y2 := H6.out.cell 2 rfl
    have y3 := H6.out.cell 3 rfl
    have y4 := H6.out.cell 4 rfl
    have y5 := H6.out.cell 5 rfl
    have z0 := P_8.out.cell 0 rfl
    have z1 := P_8.out.cell 1 rfl
    have z2 := P_8.out.cell 2 rfl
    have z3 := P_8.out.cell 3 rfl
    have z4 := P_8.out.cell 4 rfl
    have z5 := P_8.out.cell 5 rfl
    have z6 := P_8.out.cell 6 rfl
    have f0 := P_8.out.frozen 0
    have f1 := P_8.out.frozen 1
    have f2 := P_8.out.frozen 2
    have f3 := P_8.out.frozen 3
    have f4 := P_8.out.frozen 4
    have f5 := P_8.out.frozen 5
    have f6 := P_8.out.frozen 6
    obtain ⟨w9, hw9⟩ : ∃ W, (((((((w8).setCell ⟨w.heap.size, 0, none⟩ (.int .i64 (1 + x0))).setCell ⟨w.heap.size, 1, none⟩ (.int .i64 x1)).setCell ⟨w.heap.size, 2, none⟩ (.string ⟨#[]⟩)).setCell ⟨w.heap.size, 3, none⟩ (.string S2)).setCell ⟨w.heap.size, 4, none⟩ (.string S1)).setCell ⟨w.heap.size, 5, none⟩ (.string tx)).setCell ⟨w.heap.size, 6, none⟩ (.slice u l.length cu) = W := ⟨_, rfl⟩
    have hvc : Hid (∀ b o, u = some ⟨b, o, none⟩ → b ≠ w.heap.size) := fun b o e => by have := hvlo.out b o e; omega
    have PF : Hid (Blk w9 w.heap.size [.int .i64 (1 + x0), .int .i64 x1, .string ⟨#[]⟩, .string S2, .string S1, .string tx, .slice u l.length cu] 30) := by rw [← hw9]; exact (((((((P_8.out.set 0 _).set 1 _).set 2 _).set 3 _).set 4 _).set 5 _).set 6 _)
    have bF : Below w.heap.size w8 w9 := by rw [← hw9]; exact ((((((((Below.refl w.heap.size w8).setCell (p := ⟨w.heap.size, 0, none⟩) (Nat.le_refl _) _).setCell (p := ⟨w.heap.size, 1, none⟩) (Nat.le_refl _) _).setCell (p := ⟨w.heap.size, 2, none⟩) (Nat.le_refl _) _).setCell (p := ⟨w.heap.size, 3, none⟩) (Nat.le_refl _) _).setCell (p := ⟨w.heap.size, 4, none⟩) (Nat.le_refl _) _).setCell (p := ⟨w.heap.size, 5, none⟩) (Nat.le_refl _) _).setCell (p := ⟨w.heap.size, 6, none⟩) (Nat.le_refl _) _)
    have DF : Hid (DS w9 g B) := D_8.out.below (bF.mono hB)
    have GF : Hid (w.grownBy w9 (some g)) := gr_below G_8.out bF
    have VF : Hid (DrR w9 w.heap.size u cu l) := by rw [← hw9]; exact (((((((V_8.out.set 0 _ hvc.out).set 1 _ hvc.out).set 2 _ hvc.out).set 3 _ hvc.out).set 4 _ hvc.out).set 5 _ hvc.out).set 6 _ hvc.out)
    clear P_8 D_8 G_8 V_8 H6 bF
    have r0 := PF.out.cell 0 rfl
    have r1 := PF.out.cell 1 rfl
    have r2 := PF.out.cell 2 rfl
    have r3 := PF.out.cell 3 rfl
    have r4 := PF.out.cell 4 rfl
    have r5 := PF.out.cell 5 rfl
    have r6 := PF.out.cell 6 rfl
    go_wp2
    try rw [hw8]
    try rw [hb6]
    try rw [hw9]
    refine bodyPost_ret (v := .agg #[.int .i64 (1 + x0), .int .i64 x1, .string ⟨#[]⟩, .string S2, .string S1, .string tx, .slice u l.length cu]) ?_ rfl ⟨⟨(1 + x0), x1, ⟨#[]⟩, S2, S1, tx⟩, l, u, cu, rfl, HXX, VF, DF, GF⟩
    simp [results, Tryz.results32, go_sem, r0, r1, r2, r3, r4, r5, r6]
end Go.Proofs.YtajfmjgaaapjeaaGreatDoor
namespace Go.Proofs.YtajfmjgaaapjeaaGreatDoor
open Go.RowKit
open Num
set_option linter.unusedVariables false
theorem own_none (w w' : World) (B : Nat) (hB : B ≤ w'.heap.size) : OwnV (w'.alloc (.cells #[] 88)) B (.slice (some ⟨w'.heap.size, 0, none⟩) 0 0) [] :=
  World.ownsRow_made w' #[] 0 hB (by decide) rfl
set_option maxHeartbeats 1600000 in
set_option maxRecDepth 100000 in
theorem any_d (g B : Nat) (w : World) (h : DS w g B) (hB : B ≤ w.heap.size) :
    Calls Tryz.prog 37 #[.pointer (some ⟨g, 0, none⟩)] w fun e w' => ∃ (v : Value) (l : List V), e = .returned v ∧ Hid (OwnV w' w.heap.size v l) ∧ Hid (Drawn l) ∧ Hid (DS w' g B) ∧ Hid (w.grownBy w' (some g)) := by
  obtain ⟨i0, hinf, hz0, hz1, hz2⟩ := info33f
  have hgl := h.lt
  have hgw : g < w.heap.size := by omega
  have HD0 : Hid (DS w g B) := h
  clear h
  go_enter Tryz.func37, Tryz.ntmps37
  go_wp2_with fail
  refine (some_d g B w HD0.out hB).mono ?_
  rintro e w1 ⟨q, l, rfl, HO1, HL1, HD1, HG1⟩
  go_wp2_with fail
  refine (once_d g B 8 w1 HD1.out).mono ?_
  rintro e w2 ⟨t, rfl, HD2, HG2⟩
  have HO2 : Hid (OwnV w2 w.heap.size q l) := own_gr HO1.out HG2.out hgw
  have HG3 : Hid (w.grownBy w2 (some g)) := gr_trans HG1.out HG2.out
  have HDr : Hid (Drawn l) := HL1.out.2.2
  have hl1 := HL1.out.1
  have hl4 := HL1.out.2.1
  clear HG1 HG2 HO1 HD1 HL1 HD0
  rcases t with _ | _
  · go_wp2
    go_ret
    first | exact ⟨_, rfl, l, HO2, HDr, HD2, HG3⟩ | exact ⟨_, l, rfl, HO2, HDr, HD2, HG3⟩
  obtain ⟨b, cap, rfl, hbB, hrow⟩ := OwnV.row HO2.out (by omega)
  go_wp2_with fail
  refine (below_d g B _ w2 HD2.out (by omega)).mono ?_
  rintro e w3 ⟨kz, rfl, hk0, hk1, HD4, HG4⟩
  obtain ⟨k, rfl⟩ : ∃ k : Nat, kz = (k : Int) := ⟨kz.toNat, by omega⟩
  have hkl : k < l.length := by omega
  have HO4 : Hid (OwnV w3 w.heap.size (.slice (some ⟨b, 0, none⟩) l.length cap) l) := own_gr HO2.out HG4.out hgw
  have HG5 : Hid (w.grownBy w3 (some g)) := gr_trans HG3.out HG4.out
  clear HG4 HG3 HO2 HD2 hrow
  go_wp2_with fail
  refine (below_d g B 4 w3 HD4.out (by omega)).mono ?_
  rintro e w4 ⟨c, rfl, hc0, hc1, HD6, HG6⟩
  have HO6 : Hid (OwnV w4 w.heap.size (.slice (some ⟨b, 0, none⟩) l.length cap) l) := own_gr HO4.out HG6.out hgw
  have HG7 : Hid (w.grownBy w4 (some g)) := gr_trans HG5.out HG6.out
  have hs4 : w.heap.size ≤ w4.heap.size := HG7.out.size
  clear HG6 HG5 HO4 HD4 w2 w3
  rcases (show c = 0 ∨ c = 1 ∨ c = 2 ∨ c = 3 from by omega) with rfl | rfl | rfl | rfl
  · have HZ : Hid ((w4.alloc (.cells #[.int .i64 0, .int .i64 1, .int .i64 99, .int .i64 100] 3)).heap[w4.heap.size]? = some (.cells (([0, 1, 99, 100] : List Int).map (Value.int .i64)).toArray 3 (0, 0))) := heap_alloc_new _ _
    have HD7 : Hid (DS (w4.alloc (.cells #[.int .i64 0, .int .i64 1, .int .i64 99, .int .i64 100] 3)) g B) := HD6.out.below ((Below.refl _ _).alloc (by omega) _)
    have hne : w4.heap.size ≠ g := by omega
    go_wp2_with fail
    refine (pick_d g w4.heap.size B [0, 1, 99, 100] _ HD7.out HZ.out hne (by simp) (by simp)).mono ?_
    rintro e w5 ⟨x, rfl, hx, HD8, HG8⟩
    have HO8 : Hid (OwnV w5 w.heap.size (.slice (some ⟨b, 0, none⟩) l.length cap) l) := own_gr (World.ownsRow.alloc HO6.out _) HG8.out hgw
    have HG9 : Hid (w.grownBy w5 (some g)) := gr_trans (gr_alloc HG7.out _) HG8.out
    obtain ⟨b', cap', e0, _, hrow⟩ := OwnV.row HO8.out (by omega)
    have hbb : b = b' := by simp at e0; exact e0.1
    rw [← hbb] at hrow
    clear e0 hbb
    obtain ⟨s1, f1⟩ := hrow (k * 2) (by omega)
    obtain ⟨u1, e1⟩ := Option.isSome_iff_exists.1 s1
    clear hrow s1
    have HO9 : Hid (_) := own_seti (x := x) HO8.out hkl
    have HDr9 : Hid (Drawn (l.set k ⟨x, l[k].p⟩)) := drawn_set HDr.out (HDr.out.2 l[k] (List.getElem_mem ..))
    have HD9 : Hid (DS (w5.setCell ⟨b, k * 2, none⟩ (.int .i64 x)) g B) := HD8.out.below ((Below.refl _ _).setCell (p := ⟨b, k * 2, none⟩) (by show B ≤ b; omega) _)
    have HG10 : Hid (w.grownBy (w5.setCell ⟨b, k * 2, none⟩ (.int .i64 x)) (some g)) := gr_setnew HG9.out hbB _
    clear HD8 HG9 HO8 HG8 HD7 HZ
    go_wp2
    go_ret
    first | exact ⟨_, rfl, _, HO9, HDr9, HD9, HG10⟩ | exact ⟨_, _, rfl, HO9, HDr9, HD9, HG10⟩
  · have HZ : Hid ((w4.alloc (.cells #[.int .i64 0, .int .i64 1000, .int .i64 1001, .int .i64 (-1)] 3)).heap[w4.heap.size]? = some (.cells (([0, 1000, 1001, -1] : List Int).map (Value.int .i64)).toArray 3 (0, 0))) := heap_alloc_new _ _
    have HD7 : Hid (DS (w4.alloc (.cells #[.int .i64 0, .int .i64 1000, .int .i64 1001, .int .i64 (-1)] 3)) g B) := HD6.out.below ((Below.refl _ _).alloc (by omega) _)
    have hne : w4.heap.size ≠ g := by omega
    go_wp2_with fail
    refine (pick_d g w4.heap.size B [0, 1000, 1001, -1] _ HD7.out HZ.out hne (by simp) (by simp)).mono ?_
    rintro e w5 ⟨x, rfl, hx, HD8, HG8⟩
    have HO8 : Hid (OwnV w5 w.heap.size (.slice (some ⟨b, 0, none⟩) l.length cap) l) := own_gr (World.ownsRow.alloc HO6.out _) HG8.out hgw
    have HG9 : Hid (w.grownBy w5 (some g)) := gr_trans (gr_alloc HG7.out _) HG8.out
    obtain ⟨b', cap', e0, _, hrow⟩ := OwnV.row HO8.out (by omega)
    have hbb : b = b' := by simp at e0; exact e0.1
    rw [← hbb] at hrow
    clear e0 hbb
    obtain ⟨s1, f1⟩ := hrow (k * 2 + 1) (by omega)
    obtain ⟨u1, e1⟩ := Option.isSome_iff_exists.1 s1
    clear hrow s1
    have HO9 : Hid (_) := own_setp (x := x) HO8.out hkl
    have HDr9 : Hid (Drawn (l.set k ⟨l[k].i, x⟩)) := drawn_set HDr.out (by have := hx.out; simp at this; simp only; omega)
    have HD9 : Hid (DS (w5.setCell ⟨b, k * 2 + 1, none⟩ (.int .i64 x)) g B) := HD8.out.below ((Below.refl _ _).setCell (p := ⟨b, k * 2 + 1, none⟩) (by show B ≤ b; omega) _)
    have HG10 : Hid (w.grownBy (w5.setCell ⟨b, k * 2 + 1, none⟩ (.int .i64 x)) (some g)) := gr_setnew HG9.out hbB _
    clear HD8 HG9 HO8 HG8 HD7 HZ
    go_wp2
    go_ret
    first | exact ⟨_, rfl, _, HO9, HDr9, HD9, HG10⟩ | exact ⟨_, _, rfl, HO9, HDr9, HD9, HG10⟩
  · go_wp2
    go_ret
    have HO9 : Hid (OwnV (w4.alloc (.cells #[] 88)) w.heap.size (.slice (some ⟨w4.heap.size, 0, none⟩) 0 0) []) := own_none w w4 _ hs4
    have HDr9 : Hid (Drawn []) := ⟨by simp, fun v hv => by simp at hv⟩
    have HD9 : Hid (DS (w4.alloc (.cells #[] 88)) g B) := HD6.out.below ((Below.refl _ _).alloc (by omega) _)
    have HG10 : Hid (w.grownBy (w4.alloc (.cells #[] 88)) (some g)) := gr_alloc HG7.out _
    first | exact ⟨_, rfl, _, HO9, HDr9, HD9, HG10⟩ | exact ⟨_, _, rfl, HO9, HDr9, HD9, HG10⟩
  · go_wp2
    go_loopw [3, 5] (fun ov iv wr => ∃ (q : Value) (l : List V) (n : Nat), q = ov ∧ iv = .int .i64 ((20 : Int) + (n : Int)) ∧ n ≤ 8 ∧ l.length ≤ 8 ∧ n ≤ l.length ∧ Hid (OwnV wr w.heap.size q l) ∧ Hid (∀ v ∈ l, -1 ≤ v.p ∧ v.p ≤ 1001) ∧ Hid (DS wr g B) ∧ Hid (w.grownBy wr (some g))) (fun _ iv _ => 30 - (intOf iv).toNat)
    case atStart => exact ⟨_, l, 0, rfl, rfl, by omega, by omega, by omega, HO6, HDr.out.2, HD6, HG7⟩
    case round =>
      clear HO6 HDr HD6 HG7 hs4 hkl hk0 hk1 hl1 hl4
      obtain ⟨q, l, n, rfl, rfl, hn8, hl8, hnl, HO, HP, HD, HG⟩ := hrel
      obtain ⟨a2, cap2, rfl, _, _, _⟩ := OwnV.o HO.out
      go_wp2_with fail
      refine (below_d g B 2 _ HD.out (by omega)).mono ?_
      rintro e w6 ⟨y, rfl, hy0, hy1, HD2, HG2⟩
      have HO2 : Hid (OwnV w6 w.heap.size (.slice a2 l.length cap2) l) := own_gr HO.out HG2.out hgw
      have HG3 : Hid (w.grownBy w6 (some g)) := gr_trans HG.out HG2.out
      have hs6 : w.heap.size ≤ w6.heap.size := HG3.out.size
      clear HO HG HG2 HD
      by_cases hlt : (l.length : Int) < 7 + y
      · have HO4 : Hid (OwnV (w6.alloc (.cells #[.int .i64 ((20 : Int) + (n : Int)), .int .i64 1] 88)) w.heap.size (.slice a2 l.length cap2) l) := World.ownsRow.alloc HO2.out _
        have HC : Hid (_) := one_val w6 ⟨(20 : Int) + (n : Int), 1⟩ w6.heap.size rfl
        go_wp2_with (at_builtin; refine wpList_append_own _ rfl _ _ 28 rfl w.heap.size 88 i0 (.agg #[.int .i64 0, .int .i64 0]) 2 16 Tryz.underlying28 hinf hz0 hz1 hz2 rfl (by decide) _ _ _ rfl HO4.out ⟨w6.heap.size, 0, none⟩ 1 1 (vals [⟨(20 : Int) + (n : Int), 1⟩]) rfl rfl HC.out (vals_one _) (by unfold maxLen; omega) (by omega) (by simp; omega) ?_)
        intro v' w7 hown' hgrow _
        have hob : ∀ j, (Value.slice a2 l.length cap2).ownBlock = some j → w.heap.size ≤ j := fun j hj => (HO2.out.lt j hj).1
        have HO5 : Hid (OwnV w7 w.heap.size v' (l ++ [⟨(20 : Int) + (n : Int), 1⟩])) := own_snocV hown'
        have HG5 : Hid (w.grownBy w7 (some g)) := grown_fresh (gr_alloc HG3.out _) hgrow hob
        have HD5 : Hid (DS w7 g B) := HD2.out.below ((((Below.refl _ _).alloc (by omega) _)).grown hgrow (by simp; omega) (fun j hj => by have := hob j hj; omega))
        clear hown' hgrow HC HO4 HO2 HG3 HD2 hob
        go_wp2
        go_roundw
        case rel =>
          have R : ∃ (q' : Value) (l' : List V) (n' : Nat), q' = v' ∧ Value.int .i64 ((20 : Int) + (n : Int) + 1) = .int .i64 ((20 : Int) + (n' : Int)) ∧ n' ≤ 8 ∧ l'.length ≤ 8 ∧ n' ≤ l'.length ∧ Hid (OwnV w7 w.heap.size q' l') ∧ Hid (∀ v ∈ l', -1 ≤ v.p ∧ v.p ≤ 1001) ∧ Hid (DS w7 g B) ∧ Hid (w.grownBy w7 (some g)) := by
            refine ⟨v', l ++ [⟨(20 : Int) + (n : Int), 1⟩], n + 1, rfl, by first | go_num | (congr 1; omega), by omega, by simp; omega, by simp; omega, HO5, ?_, HD5, HG5⟩
            intro v hv
            rcases List.mem_append.1 hv with hv | hv
            · exact HP.out v hv
            · simp at hv; subst hv; simp
          first | exact R | ((repeat apply Exists.intro); exact ⟨R, rfl⟩)
        case measure => simp [intOf]; omega
      · have HL : Hid (Drawn l) := ⟨hl8, HP.out⟩
        go_wp2
        go_ret
        first | exact ⟨_, rfl, _, HO2, HL, HD2, HG3⟩ | exact ⟨_, _, rfl, HO2, HL, HD2, HG3⟩
end Go.Proofs.YtajfmjgaaapjeaaGreatDoor
namespace Go.Proofs.YtajfmjgaaapjeaaGreatDoor
open Go.RowKit
open Num
set_option linter.unusedVariables false
def DrW (x : H) : Prop := 0 ≤ x.h ∧ x.h ≤ 1500 ∧ 0 ≤ x.t ∧ x.t ≤ 1500 ∧ x.a.size ≤ 40 ∧ x.v.size ≤ 40 ∧ x.n.size ≤ 40 ∧ x.d.size ≤ 40
def DrY (x : H) : Prop := 0 ≤ x.h ∧ x.h ≤ 2000 ∧ 0 ≤ x.t ∧ x.t ≤ 2000 ∧ x.a.size ≤ 40 ∧ x.v.size ≤ 40 ∧ x.n.size ≤ 40 ∧ x.d.size ≤ 40
theorem OwnS.lt9 {w : World} {B cap : Nat} {a : Option Addr} {l : List Sg} (h : OwnS w B (.slice a l.length cap) l) : ∀ b o, a = some ⟨b, o, none⟩ → b < w.heap.size := by
  rintro b o rfl
  rcases h.2 with ⟨h1, _⟩ | ⟨g, cap', cur, h1, _, hg, _⟩
  · injection h1 with h1; cases h1
  · injection h1 with h1
    injection h1 with h1
    injection h1 with h1 h2
    subst h1
    exact (Array.getElem?_eq_some_iff.1 hg).1
theorem i64_int (x : Int) (h0 : 0 ≤ x) (h1 : x < 9223372036854775808) : IntKind.i64.wrap x = x := by
  obtain ⟨n, rfl⟩ := Int.eq_ofNat_of_zero_le h0
  exact i64_small n (by omega)
theorem DrR.lo {w : World} {lo lo' cu : Nat} {u : Option Addr} {l : List V} (h : DrR w lo u cu l) (hl : lo' ≤ lo) : DrR w lo' u cu l :=
  ⟨h.1, h.2.1, h.2.2.1, fun b o e => by have := h.2.2.2 b o e; omega⟩
/-- The anchor that came in, the results as they were laid, the anchor's row. -/
def NxB (w W : World) (y : H) (p : Option Addr) (cap : Nat) (l : List V) : Prop := Blk W w.heap.size (acs y (.slice p l.length cap)) 30 ∧ Blk W (w.heap.size + 1) [.int .i64 0, .int .i64 0, .string ⟨#[]⟩, .string ⟨#[]⟩, .string ⟨#[]⟩, .string ⟨#[]⟩] 27 ∧ Blk W (w.heap.size + 2) [.int .i64 0, .int .i64 0, .string ⟨#[]⟩, .slice none 0 0] 33 ∧ VO W p l
theorem NxB.gr {w W W' : World} {g : Nat} {y : H} {p : Option Addr} {cap : Nat} {l : List V} (h : NxB w W y p cap l) (hg : W.grownBy W' (some g)) (hgw : g < w.heap.size) (hp : ∀ b o, p = some ⟨b, o, none⟩ → b ≠ g) : NxB w W' y p cap l :=
  ⟨h.1.grown hg (by simp; omega), h.2.1.grown hg (by simp; omega), h.2.2.1.grown hg (by simp; omega), h.2.2.2.gr (B := 0) hg hp⟩
theorem nxb_new (w : World) (y : H) (p : Option Addr) (cap : Nat) (l : List V) (hl : VO w p l) : NxB w (((w.alloc (.cells (acs y (.slice p l.length cap)).toArray 30)).alloc (.cells [.int .i64 0, .int .i64 0, .string ⟨#[]⟩, .string ⟨#[]⟩, .string ⟨#[]⟩, .string ⟨#[]⟩].toArray 27)).alloc (.cells [.int .i64 0, .int .i64 0, .string ⟨#[]⟩, .slice none 0 0].toArray 33)) y p cap l := by
  have e1 : (w.alloc (.cells (acs y (.slice p l.length cap)).toArray 30)).heap.size = w.heap.size + 1 := by simp
  have e2 : ((w.alloc (.cells (acs y (.slice p l.length cap)).toArray 30)).alloc (.cells [.int .i64 0, .int .i64 0, .string ⟨#[]⟩, .string ⟨#[]⟩, .string ⟨#[]⟩, .string ⟨#[]⟩].toArray 27)).heap.size = w.heap.size + 2 := by simp
  refine ⟨?_, ?_, ?_, ?_⟩
  · exact ((blk_new w _ _).alloc _).alloc _
  · have h := (blk_new (w.alloc (.cells (acs y (.slice p l.length cap)).toArray 30)) [.int .i64 0, .int .i64 0, .string ⟨#[]⟩, .string ⟨#[]⟩, .string ⟨#[]⟩, .string ⟨#[]⟩] 27).alloc (.cells [.int .i64 0, .int .i64 0, .string ⟨#[]⟩, .slice none 0 0].toArray 33)
    rw [e1] at h; exact h
  · have h := blk_new ((w.alloc (.cells (acs y (.slice p l.length cap)).toArray 30)).alloc (.cells [.int .i64 0, .int .i64 0, .string ⟨#[]⟩, .string ⟨#[]⟩, .string ⟨#[]⟩, .string ⟨#[]⟩].toArray 27)) [.int .i64 0, .int .i64 0, .string ⟨#[]⟩, .slice none 0 0] 33
    rw [e2] at h; exact h
  · exact hl.below ((((Below.refl _ _).alloc (Nat.le_refl _) _).alloc (by simp) _).alloc (by simp; omega) _)
set_option maxHeartbeats 12800000 in
set_option maxRecDepth 100000 in
theorem next_d (g B : Nat) (w : World) (y : H) (l : List V) (p : Option Addr) (cap : Nat) (hd : DS w g B) (hB : B ≤ w.heap.size) (hy : DrX y) (hl : VO w p l) (hl8 : l.length ≤ 8) (hpb : ∀ b o, p = some ⟨b, o, none⟩ → b ≠ g) :
    Calls Tryz.prog 33 #[.pointer (some ⟨g, 0, none⟩), aV y (.slice p l.length cap)] w fun e w' => ∃ (x : H) (nx : List V) (un : Option Addr) (cn : Nat) (c : Ct) (uc : Option Addr) (cc : Nat), e = .returned (.tuple #[hV x, .slice un nx.length cn, cV c uc cc]) ∧ Hid (DrY x) ∧ Hid (DrR w' w.heap.size un cn nx) ∧ Hid (SO w' uc c.l ∧ c.l.length ≤ 8 ∧ c.i.size ≤ 8 ∧ (∀ z ∈ c.l, z.s.size ≤ 8) ∧ ∀ b o, uc = some ⟨b, o, none⟩ → w.heap.size ≤ b ∧ b < w'.heap.size) ∧ Hid (DS w' g B) ∧ Hid (w.grownBy w' (some g)) := by
  have hgw : g < w.heap.size := hd.lt'
  obtain ⟨i3, hinf3, hy0, hy1, hy2⟩ := info3f
  obtain ⟨w0, hw0⟩ : ∃ W, ((w.alloc (.cells (acs y (.slice p l.length cap)).toArray 30)).alloc (.cells [.int .i64 0, .int .i64 0, .string ⟨#[]⟩, .string ⟨#[]⟩, .string ⟨#[]⟩, .string ⟨#[]⟩].toArray 27)).alloc (.cells [.int .i64 0, .int .i64 0, .string ⟨#[]⟩, .slice none 0 0].toArray 33) = W := ⟨_, rfl⟩
  have N0 : Hid (NxB w w0 y p cap l) := by rw [← hw0]; exact nxb_new w y p cap l hl
  have HPB : Hid (∀ b o, p = some ⟨b, o, none⟩ → b ≠ g) := hpb
  have hb0 : Below w.heap.size w w0 := by rw [← hw0]; exact (((Below.refl _ _).alloc (Nat.le_refl _) _).alloc (by simp) _).alloc (by simp; omega) _
  have D0 : Hid (DS w0 g B) := hd.below (hb0.mono hB)
  have G0 : Hid (w.grownBy w0 (some g)) := gr_below (gr_refl w _) hb0
  have hs0 : w.heap.size + 2 < w0.heap.size := N0.out.2.2.1.lt
  have kI := fun W => spec_headid y W
  have hI8 := size_headI y
  obtain ⟨q1, q2, q3, q4, q5, q6, q7, q8⟩ := hy
  generalize headI y = I at *
  obtain ⟨yh, yt, ya, yv, yn, yd⟩ := y
  simp only at q1 q2 q3 q4 q5 q6 q7 q8
  clear hd hb0 hl hpb
  unfold aV
  unfold hV at *
  unfold acs at hw0
  simp only at *
  go_enter Tryz.func33, Tryz.ntmps33
  go_wp2_with fail
  try rw [hw0]
  clear hw0
  refine (some_d g B w0 D0.out (by omega)).mono ?_
  rintro e w1 ⟨v, nx, rfl, HV, HL, D1, HG⟩
  obtain ⟨un, cn, rfl, HVd⟩ := OwnV.dr HV.out (by have := HL.out.2.1; omega)
  have V1 : Hid (DrR w1 w0.heap.size un cn nx) := HVd
  have N1 : Hid (NxB w w1 ⟨yh, yt, ya, yv, yn, yd⟩ p cap l) := N0.out.gr HG.out hgw HPB.out
  have G1 : Hid (w.grownBy w1 (some g)) := grown_trans G0.out HG.out
  have hs1 : w0.heap.size ≤ w1.heap.size := HG.out.size
  have hnx : nx.length ≤ 8 := HVd.2.1
  have kV := fun W (h : VO W un nx) => spec_vhash un nx cn W h (by omega)
  have hS8 := size_hashV nx
  generalize hashV nx = S at *
  clear HV HL HG HVd N0 D0 G0
  have Gd : Hid (w1.grownBy w1.drew (some g)) := gr_below (gr_refl w1 _) (Below.refl _ _).drew
  have Dd : Hid (DS w1.drew g B) := D1.out.below (Below.refl _ _).drew
  have hglo : g < w0.heap.size := by omega
  have w1e : IntKind.i64.wrap (yh + 1) = yh + 1 := i64_int _ (by omega) (by omega)
  have w2e : IntKind.i64.wrap (yt + 1) = yt + 1 := i64_int _ (by omega) (by omega)
  go_upto_region 2 with fail
  go_cut [8] (fun s wx => ∃ (b6 : Nat) (x : H), s = .pointer (some ⟨b6, 0, none⟩) ∧ Hid (DrW x) ∧ Hid (w1.heap.size ≤ b6 ∧ Blk wx b6 (hcs x).toList 27) ∧ Hid (DS wx g B) ∧ Hid (w1.grownBy wx (some g)))
  case first =>
    refine wp_region_held_drew (S := (fun W : World => W.cell? ⟨w.heap.size, 0, none⟩ = some (.int .i64 yh) ∧ W.cell? ⟨w.heap.size, 1, none⟩ = some (.int .i64 yt) ∧ W.cell? ⟨w.heap.size, 2, none⟩ = some (.string ya) ∧ W.cell? ⟨w.heap.size, 3, none⟩ = some (.string yv) ∧ W.cell? ⟨w.heap.size, 4, none⟩ = some (.string yn) ∧ W.cell? ⟨w.heap.size, 5, none⟩ = some (.string yd) ∧ W.cell? ⟨w.heap.size, 6, none⟩ = some (.slice p l.length cap))) (by kernel_rfl) ?_ (fun hHeld => ?_)
    · exact ⟨(N1.out.gr Gd.out hgw HPB.out).1.cell 0 rfl, (N1.out.gr Gd.out hgw HPB.out).1.cell 1 rfl, (N1.out.gr Gd.out hgw HPB.out).1.cell 2 rfl, (N1.out.gr Gd.out hgw HPB.out).1.cell 3 rfl, (N1.out.gr Gd.out hgw HPB.out).1.cell 4 rfl, (N1.out.gr Gd.out hgw HPB.out).1.cell 5 rfl, (N1.out.gr Gd.out hgw HPB.out).1.cell 6 rfl⟩
    generalize w1.drew = wd at *
    refine wpAnyH_take (i := 0) (oi := { dst := Option.some 13, op := Go.Op.fieldAddr 30 (Go.Operand.tmp 3) 0, type := 0, pos := "l11_verify.go:61", after := #[], guard := Option.none }) (v := ?_) rfl (by kernel_rfl) (by kernel_rfl) (by kernel_rfl) (fun _ _ _ h => h) (Or.inl ⟨by rfl, ?_⟩) hHeld ?_
    rotate_left
    · intro w hSw
      try dsimp only at hSw
      go_simp
      try (with_reducible rfl)
    simp only [Act.put, List.setIfInBounds_toArray, List.set_cons_zero, List.set_cons_succ]
    refine wpAnyH_take (i := 1) (oi := { dst := Option.some 14, op := Go.Op.fieldAddr 27 (Go.Operand.tmp 13) 0, type := 0, pos := "l11_verify.go:61", after := #[{ on := 0, ground := Go.Ground.data }], guard := Option.none }) (v := ?_) rfl (by kernel_rfl) (by kernel_rfl) (by kernel_rfl) (fun _ _ _ h => h) (Or.inl ⟨by rfl, ?_⟩) hHeld ?_
    rotate_left
    · intro w hSw
      try dsimp only at hSw
      go_simp
      try (with_reducible rfl)
    simp only [Act.put, List.setIfInBounds_toArray, List.set_cons_zero, List.set_cons_succ]
    refine wpAnyH_take (i := 2) (oi := { dst := Option.some 15, op := Go.Op.load 3 (Go.Operand.tmp 14), type := 3, pos := "l11_verify.go:61", after := #[{ on := 1, ground := Go.Ground.data }], guard := Option.none }) (v := ?_) rfl (by kernel_rfl) (by kernel_rfl) (by kernel_rfl) (fun _ _ _ h => h) (Or.inl ⟨by rfl, ?_⟩) hHeld ?_
    rotate_left
    · intro w hSw
      try dsimp only at hSw
      go_simp
      try (with_reducible rfl)
    simp only [Act.put, List.setIfInBounds_toArray, List.set_cons_zero, List.set_cons_succ]
    refine wpAnyH_take (i := 3) (oi := { dst := Option.some 16, op := Go.Op.binOp Go.BinOp.add 3 (Go.Operand.tmp 15) (Go.Operand.const (Go.Value.int Go.IntKind.i64 1)) 3, type := 3, pos := "l11_verify.go:61", after := #[{ on := 2, ground := Go.Ground.data }], guard := Option.none }) (v := ?_) rfl (by kernel_rfl) (by kernel_rfl) (by kernel_rfl) (fun _ _ _ h => h) (Or.inl ⟨by rfl, ?_⟩) hHeld ?_
    rotate_left
    · intro w hSw
      try dsimp only at hSw
      go_simp
      try (with_reducible rfl)
    simp only [Act.put, List.setIfInBounds_toArray, List.set_cons_zero, List.set_cons_succ]
    refine wpAnyH_take (i := 4) (oi := { dst := Option.some 17, op := Go.Op.fieldAddr 30 (Go.Operand.tmp 3) 0, type := 0, pos := "l11_verify.go:61", after := #[], guard := Option.none }) (v := ?_) rfl (by kernel_rfl) (by kernel_rfl) (by kernel_rfl) (fun _ _ _ h => h) (Or.inl ⟨by rfl, ?_⟩) hHeld ?_
    rotate_left
    · intro w hSw
      try dsimp only at hSw
      go_simp
      try (with_reducible rfl)
    simp only [Act.put, List.setIfInBounds_toArray, List.set_cons_zero, List.set_cons_succ]
    refine wpAnyH_take (i := 5) (oi := { dst := Option.some 18, op := Go.Op.fieldAddr 27 (Go.Operand.tmp 17) 1, type := 0, pos := "l11_verify.go:61", after := #[{ on := 4, ground := Go.Ground.data }], guard := Option.none }) (v := ?_) rfl (by kernel_rfl) (by kernel_rfl) (by kernel_rfl) (fun _ _ _ h => h) (Or.inl ⟨by rfl, ?_⟩) hHeld ?_
    rotate_left
    · intro w hSw
      try dsimp only at hSw
      go_simp
      try (with_reducible rfl)
    simp only [Act.put, List.setIfInBounds_toArray, List.set_cons_zero, List.set_cons_succ]
    refine wpAnyH_take (i := 6) (oi := { dst := Option.some 19, op := Go.Op.load 3 (Go.Operand.tmp 18), type := 3, pos := "l11_verify.go:61", after := #[{ on := 5, ground := Go.Ground.data }], guard := Option.none }) (v := ?_) rfl (by kernel_rfl) (by kernel_rfl) (by kernel_rfl) (fun _ _ _ h => h) (Or.inl ⟨by rfl, ?_⟩) hHeld ?_
    rotate_left
    · intro w hSw
      try dsimp only at hSw
      go_simp
      try (with_reducible rfl)
    simp only [Act.put, List.setIfInBounds_toArray, List.set_cons_zero, List.set_cons_succ]
    refine wpAnyH_take (i := 7) (oi := { dst := Option.some 20, op := Go.Op.binOp Go.BinOp.add 3 (Go.Operand.tmp 19) (Go.Operand.const (Go.Value.int Go.IntKind.i64 1)) 3, type := 3, pos := "l11_verify.go:61", after := #[{ on := 6, ground := Go.Ground.data }], guard := Option.none }) (v := ?_) rfl (by kernel_rfl) (by kernel_rfl) (by kernel_rfl) (fun _ _ _ h => h) (Or.inl ⟨by rfl, ?_⟩) hHeld ?_
    rotate_left
    · intro w hSw
      try dsimp only at hSw
      go_simp
      try (with_reducible rfl)
    simp only [Act.put, List.setIfInBounds_toArray, List.set_cons_zero, List.set_cons_succ]
    refine wpAnyH_take (i := 8) (oi := { dst := Option.some 21, op := Go.Op.move (Go.Operand.tmp 0), type := 67, pos := "l11_verify.go:61", after := #[], guard := Option.none }) (v := ?_) rfl (by kernel_rfl) (by kernel_rfl) (by kernel_rfl) (fun _ _ _ h => h) (Or.inl ⟨by rfl, ?_⟩) hHeld ?_
    rotate_left
    · intro w hSw
      try dsimp only at hSw
      go_simp
      try (with_reducible rfl)
    simp only [Act.put, List.setIfInBounds_toArray, List.set_cons_zero, List.set_cons_succ]
    refine wpAnyH_take (i := 11) (oi := { dst := Option.some 24, op := Go.Op.fieldAddr 30 (Go.Operand.tmp 3) 0, type := 0, pos := "l11_verify.go:61", after := #[], guard := Option.none }) (v := ?_) rfl (by kernel_rfl) (by kernel_rfl) (by kernel_rfl) (fun _ _ _ h => h) (Or.inl ⟨by rfl, ?_⟩) hHeld ?_
    rotate_left
    · intro w hSw
      try dsimp only at hSw
      go_simp
      try (with_reducible rfl)
    simp only [Act.put, List.setIfInBounds_toArray, List.set_cons_zero, List.set_cons_succ]
    refine wpAnyH_take (i := 12) (oi := { dst := Option.some 25, op := Go.Op.load 27 (Go.Operand.tmp 24), type := 27, pos := "l11_verify.go:61", after := #[{ on := 11, ground := Go.Ground.data }], guard := Option.none }) (v := ?_) rfl (by kernel_rfl) (by kernel_rfl) (by kernel_rfl) (fun _ _ _ h => h) (Or.inl ⟨by rfl, ?_⟩) hHeld ?_
    rotate_left
    · intro w hSw
      try dsimp only at hSw
      go_simp
      try (with_reducible rfl)
    simp only [Act.put, List.setIfInBounds_toArray, List.set_cons_zero, List.set_cons_succ]
    refine wpAnyH_take (i := 14) (oi := { dst := Option.some 27, op := Go.Op.fieldAddr 30 (Go.Operand.tmp 3) 0, type := 0, pos := "l11_verify.go:61", after := #[], guard := Option.none }) (v := ?_) rfl (by kernel_rfl) (by kernel_rfl) (by kernel_rfl) (fun _ _ _ h => h) (Or.inl ⟨by rfl, ?_⟩) hHeld ?_
    rotate_left
    · intro w hSw
      try dsimp only at hSw
      go_simp
      try (with_reducible rfl)
    simp only [Act.put, List.setIfInBounds_toArray, List.set_cons_zero, List.set_cons_succ]
    refine wpAnyH_take (i := 15) (oi := { dst := Option.some 28, op := Go.Op.fieldAddr 27 (Go.Operand.tmp 27) 4, type := 0, pos := "l11_verify.go:61", after := #[{ on := 14, ground := Go.Ground.data }], guard := Option.none }) (v := ?_) rfl (by kernel_rfl) (by kernel_rfl) (by kernel_rfl) (fun _ _ _ h => h) (Or.inl ⟨by rfl, ?_⟩) hHeld ?_
    rotate_left
    · intro w hSw
      try dsimp only at hSw
      go_simp
      try (with_reducible rfl)
    simp only [Act.put, List.setIfInBounds_toArray, List.set_cons_zero, List.set_cons_succ]
    refine wpAnyH_take (i := 16) (oi := { dst := Option.some 29, op := Go.Op.load 9 (Go.Operand.tmp 28), type := 9, pos := "l11_verify.go:61", after := #[{ on := 15, ground := Go.Ground.data }], guard := Option.none }) (v := ?_) rfl (by kernel_rfl) (by kernel_rfl) (by kernel_rfl) (fun _ _ _ h => h) (Or.inl ⟨by rfl, ?_⟩) hHeld ?_
    rotate_left
    · intro w hSw
      try dsimp only at hSw
      go_simp
      try (with_reducible rfl)
    simp only [Act.put, List.setIfInBounds_toArray, List.set_cons_zero, List.set_cons_succ]
    refine wpAnyH_take (i := 17) (oi := { dst := Option.some 30, op := Go.Op.move (Go.Operand.tmp 7), type := 28, pos := "l11_verify.go:61", after := #[], guard := Option.none }) (v := ?_) rfl (by kernel_rfl) (by kernel_rfl) (by kernel_rfl) (fun _ _ _ h => h) (Or.inl ⟨by rfl, ?_⟩) hHeld ?_
    rotate_left
    · intro w hSw
      try dsimp only at hSw
      go_simp
      try (with_reducible rfl)
    simp only [Act.put, List.setIfInBounds_toArray, List.set_cons_zero, List.set_cons_succ]
    refine wpAnyH_take (i := 19) (oi := { dst := Option.some 32, op := Go.Op.move (Go.Operand.tmp 0), type := 67, pos := "l11_verify.go:61", after := #[], guard := Option.none }) (v := ?_) rfl (by kernel_rfl) (by kernel_rfl) (by kernel_rfl) (fun _ _ _ h => h) (Or.inl ⟨by rfl, ?_⟩) hHeld ?_
    rotate_left
    · intro w hSw
      try dsimp only at hSw
      go_simp
      try (with_reducible rfl)
    simp only [Act.put, List.setIfInBounds_toArray, List.set_cons_zero, List.set_cons_succ]
    refine wpAnyH_ready (rs := [9, 22]) (by kernel_rfl) (by decide) ?_
    refine AllReadyH.cons (o := { dst := Option.some 22, op := Go.Op.call { callee := Go.Callee.value (Go.Operand.func 34), args := #[Go.Operand.tmp 21, Go.Operand.const (Go.Value.int Go.IntKind.i64 5)], argTypes := #[67, 3] }, type := 3, pos := "l11_verify.go:61", after := #[{ on := 8, ground := Go.Ground.data }], guard := Option.none }) rfl (fun K hK => ?_) (AllReadyH.cons (o := { dst := Option.some 8, op := Go.Op.alloc 27, type := 0, pos := "l11_verify.go:61", after := #[], guard := Option.none }) rfl (fun K hK => ?_) AllReadyH.nil)
    · go_simp
      go_at_call 34
      refine (below_d g B 5 _ Dd.out (by omega)).mono ?_
      rintro e v1 ⟨x_1, rfl, xa_1, xb_1, HD_1, HG_1⟩
      have Gp_2 : Hid (w1.grownBy v1 (some g)) := grown_trans Gd.out HG_1.out
      have w3e_1 : IntKind.i64.wrap (yt + 1 + x_1) = yt + 1 + x_1 := i64_int _ (by omega) (by omega)
      refine hK.out _ _ (⟨(N1.out.gr Gp_2.out hgw HPB.out).1.cell 0 rfl, (N1.out.gr Gp_2.out hgw HPB.out).1.cell 1 rfl, (N1.out.gr Gp_2.out hgw HPB.out).1.cell 2 rfl, (N1.out.gr Gp_2.out hgw HPB.out).1.cell 3 rfl, (N1.out.gr Gp_2.out hgw HPB.out).1.cell 4 rfl, (N1.out.gr Gp_2.out hgw HPB.out).1.cell 5 rfl, (N1.out.gr Gp_2.out hgw HPB.out).1.cell 6 rfl⟩) (fun hHeld => ?_)
      clear hK K
      try simp only [Act.put, List.setIfInBounds_toArray, List.set_cons_zero, List.set_cons_succ]
      refine wpAnyH_take (i := 10) (oi := { dst := Option.some 23, op := Go.Op.binOp Go.BinOp.add 3 (Go.Operand.tmp 20) (Go.Operand.tmp 22) 3, type := 3, pos := "l11_verify.go:61", after := #[{ on := 7, ground := Go.Ground.data }, { on := 9, ground := Go.Ground.data }], guard := Option.none }) (v := ?_) rfl (by kernel_rfl) (by kernel_rfl) (by kernel_rfl) (fun _ _ _ h => h) (Or.inl ⟨by rfl, ?_⟩) hHeld ?_
      rotate_left
      · intro w hSw
        try dsimp only at hSw
        go_simp
        try (with_reducible rfl)
      simp only [Act.put, List.setIfInBounds_toArray, List.set_cons_zero, List.set_cons_succ]
      refine wpAnyH_ready (rs := [13, 22]) (by kernel_rfl) (by decide) ?_
      refine AllReadyH.cons (o := { dst := Option.some 26, op := Go.Op.call { callee := Go.Callee.value (Go.Operand.func 11), args := #[Go.Operand.tmp 25], argTypes := #[27] }, type := 9, pos := "l11_verify.go:61", after := #[{ on := 12, ground := Go.Ground.data }, { on := 9, ground := Go.Ground.chain }], guard := Option.none }) rfl (fun K hK => ?_) (AllReadyH.cons (o := { dst := Option.some 8, op := Go.Op.alloc 27, type := 0, pos := "l11_verify.go:61", after := #[], guard := Option.none }) rfl (fun K hK => ?_) AllReadyH.nil)
      · go_simp
        go_at_call 11
        refine (kI _).mono ?_
        rintro e v3 ⟨rfl, bb_3⟩
        have D_4 : Hid (DS v3 g B) := HD_1.out.below (bb_3.mono (by have := Gp_2.out.size; omega))
        have Gp_4 : Hid (w1.grownBy v3 (some g)) := gr_below Gp_2.out (bb_3.mono Gp_2.out.size)
        refine hK.out _ _ (⟨(N1.out.gr Gp_4.out hgw HPB.out).1.cell 0 rfl, (N1.out.gr Gp_4.out hgw HPB.out).1.cell 1 rfl, (N1.out.gr Gp_4.out hgw HPB.out).1.cell 2 rfl, (N1.out.gr Gp_4.out hgw HPB.out).1.cell 3 rfl, (N1.out.gr Gp_4.out hgw HPB.out).1.cell 4 rfl, (N1.out.gr Gp_4.out hgw HPB.out).1.cell 5 rfl, (N1.out.gr Gp_4.out hgw HPB.out).1.cell 6 rfl⟩) (fun hHeld => ?_)
        clear hK K
        try simp only [Act.put, List.setIfInBounds_toArray, List.set_cons_zero, List.set_cons_succ]
        refine wpAnyH_ready (rs := [18, 22]) (by kernel_rfl) (by decide) ?_
        refine AllReadyH.cons (o := { dst := Option.some 31, op := Go.Op.call { callee := Go.Callee.value (Go.Operand.func 48), args := #[Go.Operand.tmp 30], argTypes := #[28] }, type := 9, pos := "l11_verify.go:61", after := #[{ on := 17, ground := Go.Ground.data }, { on := 13, ground := Go.Ground.chain }], guard := Option.none }) rfl (fun K hK => ?_) (AllReadyH.cons (o := { dst := Option.some 8, op := Go.Op.alloc 27, type := 0, pos := "l11_verify.go:61", after := #[], guard := Option.none }) rfl (fun K hK => ?_) AllReadyH.nil)
        · go_simp
          go_at_call 48
          refine (kV _ (V1.out.call Gp_4.out hglo).1).mono ?_
          rintro e v5 ⟨rfl, bb_5⟩
          have D_6 : Hid (DS v5 g B) := D_4.out.below (bb_5.mono (by have := Gp_4.out.size; omega))
          have Gp_6 : Hid (w1.grownBy v5 (some g)) := gr_below Gp_4.out (bb_5.mono Gp_4.out.size)
          refine hK.out _ _ (⟨(N1.out.gr Gp_6.out hgw HPB.out).1.cell 0 rfl, (N1.out.gr Gp_6.out hgw HPB.out).1.cell 1 rfl, (N1.out.gr Gp_6.out hgw HPB.out).1.cell 2 rfl, (N1.out.gr Gp_6.out hgw HPB.out).1.cell 3 rfl, (N1.out.gr Gp_6.out hgw HPB.out).1.cell 4 rfl, (N1.out.gr Gp_6.out hgw HPB.out).1.cell 5 rfl, (N1.out.gr Gp_6.out hgw HPB.out).1.cell 6 rfl⟩) (fun hHeld => ?_)
          clear hK K
          try simp only [Act.put, List.setIfInBounds_toArray, List.set_cons_zero, List.set_cons_succ]
          refine wpAnyH_ready (rs := [20, 22]) (by kernel_rfl) (by decide) ?_
          refine AllReadyH.cons (o := { dst := Option.some 33, op := Go.Op.call { callee := Go.Callee.value (Go.Operand.func 65), args := #[Go.Operand.tmp 32, Go.Operand.const (Go.Value.int Go.IntKind.i64 3)], argTypes := #[67, 3] }, type := 9, pos := "l11_verify.go:61", after := #[{ on := 19, ground := Go.Ground.data }, { on := 18, ground := Go.Ground.chain }], guard := Option.none }) rfl (fun K hK => ?_) (AllReadyH.cons (o := { dst := Option.some 8, op := Go.Op.alloc 27, type := 0, pos := "l11_verify.go:61", after := #[], guard := Option.none }) rfl (fun K hK => ?_) AllReadyH.nil)
          · go_simp
            go_at_call 65
            refine (text_d g B 3 _ D_6.out (by omega) (by omega)).mono ?_
            rintro e v7 ⟨tx_7, rfl, htx_7, HD_7, HG_7⟩
            have Gp_8 : Hid (w1.grownBy v7 (some g)) := grown_trans Gp_6.out HG_7.out
            have htz_7 : tx_7.size ≤ 3 := by have := htx_7.out; omega
            refine hK.out _ _ (⟨(N1.out.gr Gp_8.out hgw HPB.out).1.cell 0 rfl, (N1.out.gr Gp_8.out hgw HPB.out).1.cell 1 rfl, (N1.out.gr Gp_8.out hgw HPB.out).1.cell 2 rfl, (N1.out.gr Gp_8.out hgw HPB.out).1.cell 3 rfl, (N1.out.gr Gp_8.out hgw HPB.out).1.cell 4 rfl, (N1.out.gr Gp_8.out hgw HPB.out).1.cell 5 rfl, (N1.out.gr Gp_8.out hgw HPB.out).1.cell 6 rfl⟩) (fun hHeld => ?_)
            clear hK K
            try simp only [Act.put, List.setIfInBounds_toArray, List.set_cons_zero, List.set_cons_succ]
            refine wpAnyH_take (i := 21) (oi := { dst := Option.some 34, op := Go.Op.build 27 #[(0, Go.Operand.tmp 16), (1, Go.Operand.tmp 23), (2, Go.Operand.tmp 26), (3, Go.Operand.tmp 29), (4, Go.Operand.tmp 31), (5, Go.Operand.tmp 33)], type := 27, pos := "l11_verify.go:61", after := #[{ on := 3, ground := Go.Ground.data }, { on := 10, ground := Go.Ground.data }, { on := 13, ground := Go.Ground.data }, { on := 16, ground := Go.Ground.data }, { on := 18, ground := Go.Ground.data }, { on := 20, ground := Go.Ground.data }], guard := Option.none }) (v := ?_) rfl (by kernel_rfl) (by kernel_rfl) (by kernel_rfl) (fun _ _ _ h => h) (Or.inl ⟨by rfl, ?_⟩) hHeld ?_
            rotate_left
            · intro w hSw
              try dsimp only at hSw
              go_simp
              try (with_reducible rfl)
            simp only [Act.put, List.setIfInBounds_toArray, List.set_cons_zero, List.set_cons_succ]
            refine wpAnyH_ready (rs := [22]) (by kernel_rfl) (by decide) ?_
            refine AllReadyH.cons (o := { dst := Option.some 8, op := Go.Op.alloc 27, type := 0, pos := "l11_verify.go:61", after := #[], guard := Option.none }) rfl (fun K hK => ?_) AllReadyH.nil
            have bA_9 : Below v7.heap.size v7 (v7.alloc (Obj.cells #[.int .i64 0, .int .i64 0, .string ⟨#[]⟩, .string ⟨#[]⟩, .string ⟨#[]⟩, .string ⟨#[]⟩] 27)) := below_one _ _
            have D_10 : Hid (DS (v7.alloc (Obj.cells #[.int .i64 0, .int .i64 0, .string ⟨#[]⟩, .string ⟨#[]⟩, .string ⟨#[]⟩, .string ⟨#[]⟩] 27)) g B) := HD_7.out.below (bA_9.mono (by have := Gp_8.out.size; omega))
            have Gp_10 : Hid (w1.grownBy (v7.alloc (Obj.cells #[.int .i64 0, .int .i64 0, .string ⟨#[]⟩, .string ⟨#[]⟩, .string ⟨#[]⟩, .string ⟨#[]⟩] 27)) (some g)) := gr_below Gp_8.out (bA_9.mono Gp_8.out.size)
            have K_9 : Hid (Blk (v7.alloc (Obj.cells #[.int .i64 0, .int .i64 0, .string ⟨#[]⟩, .string ⟨#[]⟩, .string ⟨#[]⟩, .string ⟨#[]⟩] 27)) v7.heap.size [.int .i64 0, .int .i64 0, .string ⟨#[]⟩, .string ⟨#[]⟩, .string ⟨#[]⟩, .string ⟨#[]⟩] 27) := blk_new v7 _ _
            have hG_9 : w1.heap.size ≤ v7.heap.size := Gp_8.out.size
            go_simp
            generalize v7.alloc (Obj.cells #[.int .i64 0, .int .i64 0, .string ⟨#[]⟩, .string ⟨#[]⟩, .string ⟨#[]⟩, .string ⟨#[]⟩] 27) = wz_9 at *
            refine hK.out _ _ (⟨(N1.out.gr Gp_10.out hgw HPB.out).1.cell 0 rfl, (N1.out.gr Gp_10.out hgw HPB.out).1.cell 1 rfl, (N1.out.gr Gp_10.out hgw HPB.out).1.cell 2 rfl, (N1.out.gr Gp_10.out hgw HPB.out).1.cell 3 rfl, (N1.out.gr Gp_10.out hgw HPB.out).1.cell 4 rfl, (N1.out.gr Gp_10.out hgw HPB.out).1.cell 5 rfl, (N1.out.gr Gp_10.out hgw HPB.out).1.cell 6 rfl⟩) (fun hHeld => ?_)
            clear hK K
            try simp only [Act.put, List.setIfInBounds_toArray, List.set_cons_zero, List.set_cons_succ]
            refine wpAnyH_ready (rs := [23]) (by kernel_rfl) (by decide) ?_
            refine AllReadyH.cons (o := { dst := Option.none, op := Go.Op.store 27 (Go.Operand.tmp 8) (Go.Operand.tmp 34), type := 0, pos := "l11_verify.go:61", after := #[{ on := 22, ground := Go.Ground.data }, { on := 21, ground := Go.Ground.data }, { on := 20, ground := Go.Ground.chain }, { on := 0, ground := Go.Ground.phase }, { on := 1, ground := Go.Ground.phase }, { on := 2, ground := Go.Ground.phase }, { on := 3, ground := Go.Ground.phase }, { on := 4, ground := Go.Ground.phase }, { on := 5, ground := Go.Ground.phase }, { on := 6, ground := Go.Ground.phase }, { on := 7, ground := Go.Ground.phase }, { on := 8, ground := Go.Ground.phase }, { on := 9, ground := Go.Ground.phase }, { on := 10, ground := Go.Ground.phase }, { on := 11, ground := Go.Ground.phase }, { on := 12, ground := Go.Ground.phase }, { on := 13, ground := Go.Ground.phase }, { on := 14, ground := Go.Ground.phase }, { on := 15, ground := Go.Ground.phase }, { on := 16, ground := Go.Ground.phase }, { on := 17, ground := Go.Ground.phase }, { on := 18, ground := Go.Ground.phase }, { on := 19, ground := Go.Ground.phase }, { on := 20, ground := Go.Ground.phase }, { on := 21, ground := Go.Ground.phase }, { on := 22, ground := Go.Ground.phase }], guard := Option.none }) rfl (fun K hK => ?_) AllReadyH.nil
            have KF_11 : Hid (Blk ((((((wz_9.setCell ⟨v7.heap.size, 0, none⟩ (.int .i64 (yh + 1))).setCell ⟨v7.heap.size, 1, none⟩ (.int .i64 (yt + 1 + x_1))).setCell ⟨v7.heap.size, 2, none⟩ (.string I)).setCell ⟨v7.heap.size, 3, none⟩ (.string yn)).setCell ⟨v7.heap.size, 4, none⟩ (.string S)).setCell ⟨v7.heap.size, 5, none⟩ (.string tx_7)) v7.heap.size [.int .i64 (yh + 1), .int .i64 (yt + 1 + x_1), .string I, .string yn, .string S, .string tx_7] 27) := ((((((K_9.out.set 0 _).set 1 _).set 2 _).set 3 _).set 4 _).set 5 _)
            have Gp_11 : Hid (w1.grownBy ((((((wz_9.setCell ⟨v7.heap.size, 0, none⟩ (.int .i64 (yh + 1))).setCell ⟨v7.heap.size, 1, none⟩ (.int .i64 (yt + 1 + x_1))).setCell ⟨v7.heap.size, 2, none⟩ (.string I)).setCell ⟨v7.heap.size, 3, none⟩ (.string yn)).setCell ⟨v7.heap.size, 4, none⟩ (.string S)).setCell ⟨v7.heap.size, 5, none⟩ (.string tx_7)) (some g)) := (gr_setnew (gr_setnew (gr_setnew (gr_setnew (gr_setnew (gr_setnew Gp_10.out hG_9 _) hG_9 _) hG_9 _) hG_9 _) hG_9 _) hG_9 _)
            have DF_11 : Hid (DS ((((((wz_9.setCell ⟨v7.heap.size, 0, none⟩ (.int .i64 (yh + 1))).setCell ⟨v7.heap.size, 1, none⟩ (.int .i64 (yt + 1 + x_1))).setCell ⟨v7.heap.size, 2, none⟩ (.string I)).setCell ⟨v7.heap.size, 3, none⟩ (.string yn)).setCell ⟨v7.heap.size, 4, none⟩ (.string S)).setCell ⟨v7.heap.size, 5, none⟩ (.string tx_7)) g B) := D_10.out.below (((((((Below.refl B wz_9).setCell (p := ⟨v7.heap.size, 0, none⟩) (show B ≤ v7.heap.size by omega) _).setCell (p := ⟨v7.heap.size, 1, none⟩) (show B ≤ v7.heap.size by omega) _).setCell (p := ⟨v7.heap.size, 2, none⟩) (show B ≤ v7.heap.size by omega) _).setCell (p := ⟨v7.heap.size, 3, none⟩) (show B ≤ v7.heap.size by omega) _).setCell (p := ⟨v7.heap.size, 4, none⟩) (show B ≤ v7.heap.size by omega) _).setCell (p := ⟨v7.heap.size, 5, none⟩) (show B ≤ v7.heap.size by omega) _)
            have p_11_0 := K_9.out.cell 0 rfl
            have p_11_1 := K_9.out.cell 1 rfl
            have p_11_2 := K_9.out.cell 2 rfl
            have p_11_3 := K_9.out.cell 3 rfl
            have p_11_4 := K_9.out.cell 4 rfl
            have p_11_5 := K_9.out.cell 5 rfl
            have pf_11 := fun q => K_9.out.frozen q
            go_simp
            refine hK.out _ _ (⟨(N1.out.gr Gp_11.out hgw HPB.out).1.cell 0 rfl, (N1.out.gr Gp_11.out hgw HPB.out).1.cell 1 rfl, (N1.out.gr Gp_11.out hgw HPB.out).1.cell 2 rfl, (N1.out.gr Gp_11.out hgw HPB.out).1.cell 3 rfl, (N1.out.gr Gp_11.out hgw HPB.out).1.cell 4 rfl, (N1.out.gr Gp_11.out hgw HPB.out).1.cell 5 rfl, (N1.out.gr Gp_11.out hgw HPB.out).1.cell 6 rfl⟩) (fun hHeld => ?_)
            clear hK K
            try simp only [Act.put, List.setIfInBounds_toArray, List.set_cons_zero, List.set_cons_succ]
            refine wpAnyH_done (by kernel_rfl) ?_ _
            go_wp2_with fail
            go_meet
            exact ⟨v7.heap.size, ⟨yh + 1, yt + 1 + x_1, I, yn, S, tx_7⟩, rfl, ⟨by show 0 ≤ yh + 1; omega, by show yh + 1 ≤ 1500; omega, by show 0 ≤ yt + 1 + x_1; omega, by show yt + 1 + x_1 ≤ 1500; omega, by show I.size ≤ 40; omega, by show yn.size ≤ 40; omega, by show S.size ≤ 40; omega, by show tx_7.size ≤ 40; omega⟩, ⟨hG_9, KF_11.out⟩, DF_11, Gp_11⟩
          · have bA_12 : Below v5.heap.size v5 (v5.alloc (Obj.cells #[.int .i64 0, .int .i64 0, .string ⟨#[]⟩, .string ⟨#[]⟩, .string ⟨#[]⟩, .string ⟨#[]⟩] 27)) := below_one _ _
            have D_13 : Hid (DS (v5.alloc (Obj.cells #[.int .i64 0, .int .i64 0, .string ⟨#[]⟩, .string ⟨#[]⟩, .string ⟨#[]⟩, .string ⟨#[]⟩] 27)) g B) := D_6.out.below (bA_12.mono (by have := Gp_6.out.size; omega))
            have Gp_13 : Hid (w1.grownBy (v5.alloc (Obj.cells #[.int .i64 0, .int .i64 0, .string ⟨#[]⟩, .string ⟨#[]⟩, .string ⟨#[]⟩, .string ⟨#[]⟩] 27)) (some g)) := gr_below Gp_6.out (bA_12.mono Gp_6.out.size)
            have K_12 : Hid (Blk (v5.alloc (Obj.cells #[.int .i64 0, .int .i64 0, .string ⟨#[]⟩, .string ⟨#[]⟩, .string ⟨#[]⟩, .string ⟨#[]⟩] 27)) v5.heap.size [.int .i64 0, .int .i64 0, .string ⟨#[]⟩, .string ⟨#[]⟩, .string ⟨#[]⟩, .string ⟨#[]⟩] 27) := blk_new v5 _ _
            have hG_12 : w1.heap.size ≤ v5.heap.size := Gp_6.out.size
            go_simp
            generalize v5.alloc (Obj.cells #[.int .i64 0, .int .i64 0, .string ⟨#[]⟩, .string ⟨#[]⟩, .string ⟨#[]⟩, .string ⟨#[]⟩] 27) = wz_12 at *
            refine hK.out _ _ (⟨(N1.out.gr Gp_13.out hgw HPB.out).1.cell 0 rfl, (N1.out.gr Gp_13.out hgw HPB.out).1.cell 1 rfl, (N1.out.gr Gp_13.out hgw HPB.out).1.cell 2 rfl, (N1.out.gr Gp_13.out hgw HPB.out).1.cell 3 rfl, (N1.out.gr Gp_13.out hgw HPB.out).1.cell 4 rfl, (N1.out.gr Gp_13.out hgw HPB.out).1.cell 5 rfl, (N1.out.gr Gp_13.out hgw HPB.out).1.cell 6 rfl⟩) (fun hHeld => ?_)
            clear hK K
            try simp only [Act.put, List.setIfInBounds_toArray, List.set_cons_zero, List.set_cons_succ]
            refine wpAnyH_ready (rs := [20]) (by kernel_rfl) (by decide) ?_
            refine AllReadyH.cons (o := { dst := Option.some 33, op := Go.Op.call { callee := Go.Callee.value (Go.Operand.func 65), args := #[Go.Operand.tmp 32, Go.Operand.const (Go.Value.int Go.IntKind.i64 3)], argTypes := #[67, 3] }, type := 9, pos := "l11_verify.go:61", after := #[{ on := 19, ground := Go.Ground.data }, { on := 18, ground := Go.Ground.chain }], guard := Option.none }) rfl (fun K hK => ?_) AllReadyH.nil
            go_simp
            go_at_call 65
            refine (text_d g B 3 _ D_13.out (by omega) (by omega)).mono ?_
            rintro e v14 ⟨tx_14, rfl, htx_14, HD_14, HG_14⟩
            have Gp_15 : Hid (w1.grownBy v14 (some g)) := grown_trans Gp_13.out HG_14.out
            have K_15 : Hid (Blk v14 v5.heap.size [.int .i64 0, .int .i64 0, .string ⟨#[]⟩, .string ⟨#[]⟩, .string ⟨#[]⟩, .string ⟨#[]⟩] 27) := K_12.out.grown HG_14.out (by simp; omega)
            have htz_14 : tx_14.size ≤ 3 := by have := htx_14.out; omega
            refine hK.out _ _ (⟨(N1.out.gr Gp_15.out hgw HPB.out).1.cell 0 rfl, (N1.out.gr Gp_15.out hgw HPB.out).1.cell 1 rfl, (N1.out.gr Gp_15.out hgw HPB.out).1.cell 2 rfl, (N1.out.gr Gp_15.out hgw HPB.out).1.cell 3 rfl, (N1.out.gr Gp_15.out hgw HPB.out).1.cell 4 rfl, (N1.out.gr Gp_15.out hgw HPB.out).1.cell 5 rfl, (N1.out.gr Gp_15.out hgw HPB.out).1.cell 6 rfl⟩) (fun hHeld => ?_)
            clear hK K
            try simp only [Act.put, List.setIfInBounds_toArray, List.set_cons_zero, List.set_cons_succ]
            refine wpAnyH_take (i := 21) (oi := { dst := Option.some 34, op := Go.Op.build 27 #[(0, Go.Operand.tmp 16), (1, Go.Operand.tmp 23), (2, Go.Operand.tmp 26), (3, Go.Operand.tmp 29), (4, Go.Operand.tmp 31), (5, Go.Operand.tmp 33)], type := 27, pos := "l11_verify.go:61", after := #[{ on := 3, ground := Go.Ground.data }, { on := 10, ground := Go.Ground.data }, { on := 13, ground := Go.Ground.data }, { on := 16, ground := Go.Ground.data }, { on := 18, ground := Go.Ground.data }, { on := 20, ground := Go.Ground.data }], guard := Option.none }) (v := ?_) rfl (by kernel_rfl) (by kernel_rfl) (by kernel_rfl) (fun _ _ _ h => h) (Or.inl ⟨by rfl, ?_⟩) hHeld ?_
            rotate_left
            · intro w hSw
              try dsimp only at hSw
              go_simp
              try (with_reducible rfl)
            simp only [Act.put, List.setIfInBounds_toArray, List.set_cons_zero, List.set_cons_succ]
            refine wpAnyH_ready (rs := [23]) (by kernel_rfl) (by decide) ?_
            refine AllReadyH.cons (o := { dst := Option.none, op := Go.Op.store 27 (Go.Operand.tmp 8) (Go.Operand.tmp 34), type := 0, pos := "l11_verify.go:61", after := #[{ on := 22, ground := Go.Ground.data }, { on := 21, ground := Go.Ground.data }, { on := 20, ground := Go.Ground.chain }, { on := 0, ground := Go.Ground.phase }, { on := 1, ground := Go.Ground.phase }, { on := 2, ground := Go.Ground.phase }, { on := 3, ground := Go.Ground.phase }, { on := 4, ground := Go.Ground.phase }, { on := 5, ground := Go.Ground.phase }, { on := 6, ground := Go.Ground.phase }, { on := 7, ground := Go.Ground.phase }, { on := 8, ground := Go.Ground.phase }, { on := 9, ground := Go.Ground.phase }, { on := 10, ground := Go.Ground.phase }, { on := 11, ground := Go.Ground.phase }, { on := 12, ground := Go.Ground.phase }, { on := 13, ground := Go.Ground.phase }, { on := 14, ground := Go.Ground.phase }, { on := 15, ground := Go.Ground.phase }, { on := 16, ground := Go.Ground.phase }, { on := 17, ground := Go.Ground.phase }, { on := 18, ground := Go.Ground.phase }, { on := 19, ground := Go.Ground.phase }, { on := 20, ground := Go.Ground.phase }, { on := 21, ground := Go.Ground.phase }, { on := 22, ground := Go.Ground.phase }], guard := Option.none }) rfl (fun K hK => ?_) AllReadyH.nil
            have KF_16 : Hid (Blk ((((((v14.setCell ⟨v5.heap.size, 0, none⟩ (.int .i64 (yh + 1))).setCell ⟨v5.heap.size, 1, none⟩ (.int .i64 (yt + 1 + x_1))).setCell ⟨v5.heap.size, 2, none⟩ (.string I)).setCell ⟨v5.heap.size, 3, none⟩ (.string yn)).setCell ⟨v5.heap.size, 4, none⟩ (.string S)).setCell ⟨v5.heap.size, 5, none⟩ (.string tx_14)) v5.heap.size [.int .i64 (yh + 1), .int .i64 (yt + 1 + x_1), .string I, .string yn, .string S, .string tx_14] 27) := ((((((K_15.out.set 0 _).set 1 _).set 2 _).set 3 _).set 4 _).set 5 _)
            have Gp_16 : Hid (w1.grownBy ((((((v14.setCell ⟨v5.heap.size, 0, none⟩ (.int .i64 (yh + 1))).setCell ⟨v5.heap.size, 1, none⟩ (.int .i64 (yt + 1 + x_1))).setCell ⟨v5.heap.size, 2, none⟩ (.string I)).setCell ⟨v5.heap.size, 3, none⟩ (.string yn)).setCell ⟨v5.heap.size, 4, none⟩ (.string S)).setCell ⟨v5.heap.size, 5, none⟩ (.string tx_14)) (some g)) := (gr_setnew (gr_setnew (gr_setnew (gr_setnew (gr_setnew (gr_setnew Gp_15.out hG_12 _) hG_12 _) hG_12 _) hG_12 _) hG_12 _) hG_12 _)
            have DF_16 : Hid (DS ((((((v14.setCell ⟨v5.heap.size, 0, none⟩ (.int .i64 (yh + 1))).setCell ⟨v5.heap.size, 1, none⟩ (.int .i64 (yt + 1 + x_1))).setCell ⟨v5.heap.size, 2, none⟩ (.string I)).setCell ⟨v5.heap.size, 3, none⟩ (.string yn)).setCell ⟨v5.heap.size, 4, none⟩ (.string S)).setCell ⟨v5.heap.size, 5, none⟩ (.string tx_14)) g B) := HD_14.out.below (((((((Below.refl B v14).setCell (p := ⟨v5.heap.size, 0, none⟩) (show B ≤ v5.heap.size by omega) _).setCell (p := ⟨v5.heap.size, 1, none⟩) (show B ≤ v5.heap.size by omega) _).setCell (p := ⟨v5.heap.size, 2, none⟩) (show B ≤ v5.heap.size by omega) _).setCell (p := ⟨v5.heap.size, 3, none⟩) (show B ≤ v5.heap.size by omega) _).setCell (p := ⟨v5.heap.size, 4, none⟩) (show B ≤ v5.heap.size by omega) _).setCell (p := ⟨v5.heap.size, 5, none⟩) (show B ≤ v5.heap.size by omega) _)
            have p_16_0 := K_15.out.cell 0 rfl
            have p_16_1 := K_15.out.cell 1 rfl
            have p_16_2 := K_15.out.cell 2 rfl
            have p_16_3 := K_15.out.cell 3 rfl
            have p_16_4 := K_15.out.cell 4 rfl
            have p_16_5 := K_15.out.cell 5 rfl
            have pf_16 := fun q => K_15.out.frozen q
            go_simp
            refine hK.out _ _ (⟨(N1.out.gr Gp_16.out hgw HPB.out).1.cell 0 rfl, (N1.out.gr Gp_16.out hgw HPB.out).1.cell 1 rfl, (N1.out.gr Gp_16.out hgw HPB.out).1.cell 2 rfl, (N1.out.gr Gp_16.out hgw HPB.out).1.cell 3 rfl, (N1.out.gr Gp_16.out hgw HPB.out).1.cell 4 rfl, (N1.out.gr Gp_16.out hgw HPB.out).1.cell 5 rfl, (N1.out.gr Gp_16.out hgw HPB.out).1.cell 6 rfl⟩) (fun hHeld => ?_)
            clear hK K
            try simp only [Act.put, List.setIfInBounds_toArray, List.set_cons_zero, List.set_cons_succ]
            refine wpAnyH_done (by kernel_rfl) ?_ _
            go_wp2_with fail
            go_meet
            exact ⟨v5.heap.size, ⟨yh + 1, yt + 1 + x_1, I, yn, S, tx_14⟩, rfl, ⟨by show 0 ≤ yh + 1; omega, by show yh + 1 ≤ 1500; omega, by show 0 ≤ yt + 1 + x_1; omega, by show yt + 1 + x_1 ≤ 1500; omega, by show I.size ≤ 40; omega, by show yn.size ≤ 40; omega, by show S.size ≤ 40; omega, by show tx_14.size ≤ 40; omega⟩, ⟨hG_12, KF_16.out⟩, DF_16, Gp_16⟩
        · have bA_17 : Below v3.heap.size v3 (v3.alloc (Obj.cells #[.int .i64 0, .int .i64 0, .string ⟨#[]⟩, .string ⟨#[]⟩, .string ⟨#[]⟩, .string ⟨#[]⟩] 27)) := below_one _ _
          have D_18 : Hid (DS (v3.alloc (Obj.cells #[.int .i64 0, .int .i64 0, .string ⟨#[]⟩, .string ⟨#[]⟩, .string ⟨#[]⟩, .string ⟨#[]⟩] 27)) g B) := D_4.out.below (bA_17.mono (by have := Gp_4.out.size; omega))
          have Gp_18 : Hid (w1.grownBy (v3.alloc (Obj.cells #[.int .i64 0, .int .i64 0, .string ⟨#[]⟩, .string ⟨#[]⟩, .string ⟨#[]⟩, .string ⟨#[]⟩] 27)) (some g)) := gr_below Gp_4.out (bA_17.mono Gp_4.out.size)
          have K_17 : Hid (Blk (v3.alloc (Obj.cells #[.int .i64 0, .int .i64 0, .string ⟨#[]⟩, .string ⟨#[]⟩, .string ⟨#[]⟩, .string ⟨#[]⟩] 27)) v3.heap.size [.int .i64 0, .int .i64 0, .string ⟨#[]⟩, .string ⟨#[]⟩, .string ⟨#[]⟩, .string ⟨#[]⟩] 27) := blk_new v3 _ _
          have hG_17 : w1.heap.size ≤ v3.heap.size := Gp_4.out.size
          go_simp
          generalize v3.alloc (Obj.cells #[.int .i64 0, .int .i64 0, .string ⟨#[]⟩, .string ⟨#[]⟩, .string ⟨#[]⟩, .string ⟨#[]⟩] 27) = wz_17 at *
          refine hK.out _ _ (⟨(N1.out.gr Gp_18.out hgw HPB.out).1.cell 0 rfl, (N1.out.gr Gp_18.out hgw HPB.out).1.cell 1 rfl, (N1.out.gr Gp_18.out hgw HPB.out).1.cell 2 rfl, (N1.out.gr Gp_18.out hgw HPB.out).1.cell 3 rfl, (N1.out.gr Gp_18.out hgw HPB.out).1.cell 4 rfl, (N1.out.gr Gp_18.out hgw HPB.out).1.cell 5 rfl, (N1.out.gr Gp_18.out hgw HPB.out).1.cell 6 rfl⟩) (fun hHeld => ?_)
          clear hK K
          try simp only [Act.put, List.setIfInBounds_toArray, List.set_cons_zero, List.set_cons_succ]
          refine wpAnyH_ready (rs := [18]) (by kernel_rfl) (by decide) ?_
          refine AllReadyH.cons (o := { dst := Option.some 31, op := Go.Op.call { callee := Go.Callee.value (Go.Operand.func 48), args := #[Go.Operand.tmp 30], argTypes := #[28] }, type := 9, pos := "l11_verify.go:61", after := #[{ on := 17, ground := Go.Ground.data }, { on := 13, ground := Go.Ground.chain }], guard := Option.none }) rfl (fun K hK => ?_) AllReadyH.nil
          go_simp
          go_at_call 48
          refine (kV _ (V1.out.call Gp_18.out hglo).1).mono ?_
          rintro e v19 ⟨rfl, bb_19⟩
          have D_20 : Hid (DS v19 g B) := D_18.out.below (bb_19.mono (by have := Gp_18.out.size; omega))
          have Gp_20 : Hid (w1.grownBy v19 (some g)) := gr_below Gp_18.out (bb_19.mono Gp_18.out.size)
          have K_20 : Hid (Blk v19 v3.heap.size [.int .i64 0, .int .i64 0, .string ⟨#[]⟩, .string ⟨#[]⟩, .string ⟨#[]⟩, .string ⟨#[]⟩] 27) := K_17.out.below bb_19 K_17.out.lt
          refine hK.out _ _ (⟨(N1.out.gr Gp_20.out hgw HPB.out).1.cell 0 rfl, (N1.out.gr Gp_20.out hgw HPB.out).1.cell 1 rfl, (N1.out.gr Gp_20.out hgw HPB.out).1.cell 2 rfl, (N1.out.gr Gp_20.out hgw HPB.out).1.cell 3 rfl, (N1.out.gr Gp_20.out hgw HPB.out).1.cell 4 rfl, (N1.out.gr Gp_20.out hgw HPB.out).1.cell 5 rfl, (N1.out.gr Gp_20.out hgw HPB.out).1.cell 6 rfl⟩) (fun hHeld => ?_)
          clear hK K
          try simp only [Act.put, List.setIfInBounds_toArray, List.set_cons_zero, List.set_cons_succ]
          refine wpAnyH_ready (rs := [20]) (by kernel_rfl) (by decide) ?_
          refine AllReadyH.cons (o := { dst := Option.some 33, op := Go.Op.call { callee := Go.Callee.value (Go.Operand.func 65), args := #[Go.Operand.tmp 32, Go.Operand.const (Go.Value.int Go.IntKind.i64 3)], argTypes := #[67, 3] }, type := 9, pos := "l11_verify.go:61", after := #[{ on := 19, ground := Go.Ground.data }, { on := 18, ground := Go.Ground.chain }], guard := Option.none }) rfl (fun K hK => ?_) AllReadyH.nil
          go_simp
          go_at_call 65
          refine (text_d g B 3 _ D_20.out (by omega) (by omega)).mono ?_
          rintro e v21 ⟨tx_21, rfl, htx_21, HD_21, HG_21⟩
          have Gp_22 : Hid (w1.grownBy v21 (some g)) := grown_trans Gp_20.out HG_21.out
          have K_22 : Hid (Blk v21 v3.heap.size [.int .i64 0, .int .i64 0, .string ⟨#[]⟩, .string ⟨#[]⟩, .string ⟨#[]⟩, .string ⟨#[]⟩] 27) := K_20.out.grown HG_21.out (by simp; omega)
          have htz_21 : tx_21.size ≤ 3 := by have := htx_21.out; omega
          refine hK.out _ _ (⟨(N1.out.gr Gp_22.out hgw HPB.out).1.cell 0 rfl, (N1.out.gr Gp_22.out hgw HPB.out).1.cell 1 rfl, (N1.out.gr Gp_22.out hgw HPB.out).1.cell 2 rfl, (N1.out.gr Gp_22.out hgw HPB.out).1.cell 3 rfl, (N1.out.gr Gp_22.out hgw HPB.out).1.cell 4 rfl, (N1.out.gr Gp_22.out hgw HPB.out).1.cell 5 rfl, (N1.out.gr Gp_22.out hgw HPB.out).1.cell 6 rfl⟩) (fun hHeld => ?_)
          clear hK K
          try simp only [Act.put, List.setIfInBounds_toArray, List.set_cons_zero, List.set_cons_succ]
          refine wpAnyH_take (i := 21) (oi := { dst := Option.some 34, op := Go.Op.build 27 #[(0, Go.Operand.tmp 16), (1, Go.Operand.tmp 23), (2, Go.Operand.tmp 26), (3, Go.Operand.tmp 29), (4, Go.Operand.tmp 31), (5, Go.Operand.tmp 33)], type := 27, pos := "l11_verify.go:61", after := #[{ on := 3, ground := Go.Ground.data }, { on := 10, ground := Go.Ground.data }, { on := 13, ground := Go.Ground.data }, { on := 16, ground := Go.Ground.data }, { on := 18, ground := Go.Ground.data }, { on := 20, ground := Go.Ground.data }], guard := Option.none }) (v := ?_) rfl (by kernel_rfl) (by kernel_rfl) (by kernel_rfl) (fun _ _ _ h => h) (Or.inl ⟨by rfl, ?_⟩) hHeld ?_
          rotate_left
          · intro w hSw
            try dsimp only at hSw
            go_simp
            try (with_reducible rfl)
          simp only [Act.put, List.setIfInBounds_toArray, List.set_cons_zero, List.set_cons_succ]
          refine wpAnyH_ready (rs := [23]) (by kernel_rfl) (by decide) ?_
          refine AllReadyH.cons (o := { dst := Option.none, op := Go.Op.store 27 (Go.Operand.tmp 8) (Go.Operand.tmp 34), type := 0, pos := "l11_verify.go:61", after := #[{ on := 22, ground := Go.Ground.data }, { on := 21, ground := Go.Ground.data }, { on := 20, ground := Go.Ground.chain }, { on := 0, ground := Go.Ground.phase }, { on := 1, ground := Go.Ground.phase }, { on := 2, ground := Go.Ground.phase }, { on := 3, ground := Go.Ground.phase }, { on := 4, ground := Go.Ground.phase }, { on := 5, ground := Go.Ground.phase }, { on := 6, ground := Go.Ground.phase }, { on := 7, ground := Go.Ground.phase }, { on := 8, ground := Go.Ground.phase }, { on := 9, ground := Go.Ground.phase }, { on := 10, ground := Go.Ground.phase }, { on := 11, ground := Go.Ground.phase }, { on := 12, ground := Go.Ground.phase }, { on := 13, ground := Go.Ground.phase }, { on := 14, ground := Go.Ground.phase }, { on := 15, ground := Go.Ground.phase }, { on := 16, ground := Go.Ground.phase }, { on := 17, ground := Go.Ground.phase }, { on := 18, ground := Go.Ground.phase }, { on := 19, ground := Go.Ground.phase }, { on := 20, ground := Go.Ground.phase }, { on := 21, ground := Go.Ground.phase }, { on := 22, ground := Go.Ground.phase }], guard := Option.none }) rfl (fun K hK => ?_) AllReadyH.nil
          have KF_23 : Hid (Blk ((((((v21.setCell ⟨v3.heap.size, 0, none⟩ (.int .i64 (yh + 1))).setCell ⟨v3.heap.size, 1, none⟩ (.int .i64 (yt + 1 + x_1))).setCell ⟨v3.heap.size, 2, none⟩ (.string I)).setCell ⟨v3.heap.size, 3, none⟩ (.string yn)).setCell ⟨v3.heap.size, 4, none⟩ (.string S)).setCell ⟨v3.heap.size, 5, none⟩ (.string tx_21)) v3.heap.size [.int .i64 (yh + 1), .int .i64 (yt + 1 + x_1), .string I, .string yn, .string S, .string tx_21] 27) := ((((((K_22.out.set 0 _).set 1 _).set 2 _).set 3 _).set 4 _).set 5 _)
          have Gp_23 : Hid (w1.grownBy ((((((v21.setCell ⟨v3.heap.size, 0, none⟩ (.int .i64 (yh + 1))).setCell ⟨v3.heap.size, 1, none⟩ (.int .i64 (yt + 1 + x_1))).setCell ⟨v3.heap.size, 2, none⟩ (.string I)).setCell ⟨v3.heap.size, 3, none⟩ (.string yn)).setCell ⟨v3.heap.size, 4, none⟩ (.string S)).setCell ⟨v3.heap.size, 5, none⟩ (.string tx_21)) (some g)) := (gr_setnew (gr_setnew (gr_setnew (gr_setnew (gr_setnew (gr_setnew Gp_22.out hG_17 _) hG_17 _) hG_17 _) hG_17 _) hG_17 _) hG_17 _)
          have DF_23 : Hid (DS ((((((v21.setCell ⟨v3.heap.size, 0, none⟩ (.int .i64 (yh + 1))).setCell ⟨v3.heap.size, 1, none⟩ (.int .i64 (yt + 1 + x_1))).setCell ⟨v3.heap.size, 2, none⟩ (.string I)).setCell ⟨v3.heap.size, 3, none⟩ (.string yn)).setCell ⟨v3.heap.size, 4, none⟩ (.string S)).setCell ⟨v3.heap.size, 5, none⟩ (.string tx_21)) g B) := HD_21.out.below (((((((Below.refl B v21).setCell (p := ⟨v3.heap.size, 0, none⟩) (show B ≤ v3.heap.size by omega) _).setCell (p := ⟨v3.heap.size, 1, none⟩) (show B ≤ v3.heap.size by omega) _).setCell (p := ⟨v3.heap.size, 2, none⟩) (show B ≤ v3.heap.size by omega) _).setCell (p := ⟨v3.heap.size, 3, none⟩) (show B ≤ v3.heap.size by omega) _).setCell (p := ⟨v3.heap.size, 4, none⟩) (show B ≤ v3.heap.size by omega) _).setCell (p := ⟨v3.heap.size, 5, none⟩) (show B ≤ v3.heap.size by omega) _)
          have p_23_0 := K_22.out.cell 0 rfl
          have p_23_1 := K_22.out.cell 1 rfl
          have p_23_2 := K_22.out.cell 2 rfl
          have p_23_3 := K_22.out.cell 3 rfl
          have p_23_4 := K_22.out.cell 4 rfl
          have p_23_5 := K_22.out.cell 5 rfl
          have pf_23 := fun q => K_22.out.frozen q
          go_simp
          refine hK.out _ _ (⟨(N1.out.gr Gp_23.out hgw HPB.out).1.cell 0 rfl, (N1.out.gr Gp_23.out hgw HPB.out).1.cell 1 rfl, (N1.out.gr Gp_23.out hgw HPB.out).1.cell 2 rfl, (N1.out.gr Gp_23.out hgw HPB.out).1.cell 3 rfl, (N1.out.gr Gp_23.out hgw HPB.out).1.cell 4 rfl, (N1.out.gr Gp_23.out hgw HPB.out).1.cell 5 rfl, (N1.out.gr Gp_23.out hgw HPB.out).1.cell 6 rfl⟩) (fun hHeld => ?_)
          clear hK K
          try simp only [Act.put, List.setIfInBounds_toArray, List.set_cons_zero, List.set_cons_succ]
          refine wpAnyH_done (by kernel_rfl) ?_ _
          go_wp2_with fail
          go_meet
          exact ⟨v3.heap.size, ⟨yh + 1, yt + 1 + x_1, I, yn, S, tx_21⟩, rfl, ⟨by show 0 ≤ yh + 1; omega, by show yh + 1 ≤ 1500; omega, by show 0 ≤ yt + 1 + x_1; omega, by show yt + 1 + x_1 ≤ 1500; omega, by show I.size ≤ 40; omega, by show yn.size ≤ 40; omega, by show S.size ≤ 40; omega, by show tx_21.size ≤ 40; omega⟩, ⟨hG_17, KF_23.out⟩, DF_23, Gp_23⟩
      · have bA_24 : Below v1.heap.size v1 (v1.alloc (Obj.cells #[.int .i64 0, .int .i64 0, .string ⟨#[]⟩, .string ⟨#[]⟩, .string ⟨#[]⟩, .string ⟨#[]⟩] 27)) := below_one _ _
        have D_25 : Hid (DS (v1.alloc (Obj.cells #[.int .i64 0, .int .i64 0, .string ⟨#[]⟩, .string ⟨#[]⟩, .string ⟨#[]⟩, .string ⟨#[]⟩] 27)) g B) := HD_1.out.below (bA_24.mono (by have := Gp_2.out.size; omega))
        have Gp_25 : Hid (w1.grownBy (v1.alloc (Obj.cells #[.int .i64 0, .int .i64 0, .string ⟨#[]⟩, .string ⟨#[]⟩, .string ⟨#[]⟩, .string ⟨#[]⟩] 27)) (some g)) := gr_below Gp_2.out (bA_24.mono Gp_2.out.size)
        have K_24 : Hid (Blk (v1.alloc (Obj.cells #[.int .i64 0, .int .i64 0, .string ⟨#[]⟩, .string ⟨#[]⟩, .string ⟨#[]⟩, .string ⟨#[]⟩] 27)) v1.heap.size [.int .i64 0, .int .i64 0, .string ⟨#[]⟩, .string ⟨#[]⟩, .string ⟨#[]⟩, .string ⟨#[]⟩] 27) := blk_new v1 _ _
        have hG_24 : w1.heap.size ≤ v1.heap.size := Gp_2.out.size
        go_simp
        generalize v1.alloc (Obj.cells #[.int .i64 0, .int .i64 0, .string ⟨#[]⟩, .string ⟨#[]⟩, .string ⟨#[]⟩, .string ⟨#[]⟩] 27) = wz_24 at *
        refine hK.out _ _ (⟨(N1.out.gr Gp_25.out hgw HPB.out).1.cell 0 rfl, (N1.out.gr Gp_25.out hgw HPB.out).1.cell 1 rfl, (N1.out.gr Gp_25.out hgw HPB.out).1.cell 2 rfl, (N1.out.gr Gp_25.out hgw HPB.out).1.cell 3 rfl, (N1.out.gr Gp_25.out hgw HPB.out).1.cell 4 rfl, (N1.out.gr Gp_25.out hgw HPB.out).1.cell 5 rfl, (N1.out.gr Gp_25.out hgw HPB.out).1.cell 6 rfl⟩) (fun hHeld => ?_)
        clear hK K
        try simp only [Act.put, List.setIfInBounds_toArray, List.set_cons_zero, List.set_cons_succ]
        refine wpAnyH_ready (rs := [13]) (by kernel_rfl) (by decide) ?_
        refine AllReadyH.cons (o := { dst := Option.some 26, op := Go.Op.call { callee := Go.Callee.value (Go.Operand.func 11), args := #[Go.Operand.tmp 25], argTypes := #[27] }, type := 9, pos := "l11_verify.go:61", after := #[{ on := 12, ground := Go.Ground.data }, { on := 9, ground := Go.Ground.chain }], guard := Option.none }) rfl (fun K hK => ?_) AllReadyH.nil
        go_simp
        go_at_call 11
        refine (kI _).mono ?_
        rintro e v26 ⟨rfl, bb_26⟩
        have D_27 : Hid (DS v26 g B) := D_25.out.below (bb_26.mono (by have := Gp_25.out.size; omega))
        have Gp_27 : Hid (w1.grownBy v26 (some g)) := gr_below Gp_25.out (bb_26.mono Gp_25.out.size)
        have K_27 : Hid (Blk v26 v1.heap.size [.int .i64 0, .int .i64 0, .string ⟨#[]⟩, .string ⟨#[]⟩, .string ⟨#[]⟩, .string ⟨#[]⟩] 27) := K_24.out.below bb_26 K_24.out.lt
        refine hK.out _ _ (⟨(N1.out.gr Gp_27.out hgw HPB.out).1.cell 0 rfl, (N1.out.gr Gp_27.out hgw HPB.out).1.cell 1 rfl, (N1.out.gr Gp_27.out hgw HPB.out).1.cell 2 rfl, (N1.out.gr Gp_27.out hgw HPB.out).1.cell 3 rfl, (N1.out.gr Gp_27.out hgw HPB.out).1.cell 4 rfl, (N1.out.gr Gp_27.out hgw HPB.out).1.cell 5 rfl, (N1.out.gr Gp_27.out hgw HPB.out).1.cell 6 rfl⟩) (fun hHeld => ?_)
        clear hK K
        try simp only [Act.put, List.setIfInBounds_toArray, List.set_cons_zero, List.set_cons_succ]
        refine wpAnyH_ready (rs := [18]) (by kernel_rfl) (by decide) ?_
        refine AllReadyH.cons (o := { dst := Option.some 31, op := Go.Op.call { callee := Go.Callee.value (Go.Operand.func 48), args := #[Go.Operand.tmp 30], argTypes := #[28] }, type := 9, pos := "l11_verify.go:61", after := #[{ on := 17, ground := Go.Ground.data }, { on := 13, ground := Go.Ground.chain }], guard := Option.none }) rfl (fun K hK => ?_) AllReadyH.nil
        go_simp
        go_at_call 48
        refine (kV _ (V1.out.call Gp_27.out hglo).1).mono ?_
        rintro e v28 ⟨rfl, bb_28⟩
        have D_29 : Hid (DS v28 g B) := D_27.out.below (bb_28.mono (by have := Gp_27.out.size; omega))
        have Gp_29 : Hid (w1.grownBy v28 (some g)) := gr_below Gp_27.out (bb_28.mono Gp_27.out.size)
        have K_29 : Hid (Blk v28 v1.heap.size [.int .i64 0, .int .i64 0, .string ⟨#[]⟩, .string ⟨#[]⟩, .string ⟨#[]⟩, .string ⟨#[]⟩] 27) := K_27.out.below bb_28 K_27.out.lt
        refine hK.out _ _ (⟨(N1.out.gr Gp_29.out hgw HPB.out).1.cell 0 rfl, (N1.out.gr Gp_29.out hgw HPB.out).1.cell 1 rfl, (N1.out.gr Gp_29.out hgw HPB.out).1.cell 2 rfl, (N1.out.gr Gp_29.out hgw HPB.out).1.cell 3 rfl, (N1.out.gr Gp_29.out hgw HPB.out).1.cell 4 rfl, (N1.out.gr Gp_29.out hgw HPB.out).1.cell 5 rfl, (N1.out.gr Gp_29.out hgw HPB.out).1.cell 6 rfl⟩) (fun hHeld => ?_)
        clear hK K
        try simp only [Act.put, List.setIfInBounds_toArray, List.set_cons_zero, List.set_cons_succ]
        refine wpAnyH_ready (rs := [20]) (by kernel_rfl) (by decide) ?_
        refine AllReadyH.cons (o := { dst := Option.some 33, op := Go.Op.call { callee := Go.Callee.value (Go.Operand.func 65), args := #[Go.Operand.tmp 32, Go.Operand.const (Go.Value.int Go.IntKind.i64 3)], argTypes := #[67, 3] }, type := 9, pos := "l11_verify.go:61", after := #[{ on := 19, ground := Go.Ground.data }, { on := 18, ground := Go.Ground.chain }], guard := Option.none }) rfl (fun K hK => ?_) AllReadyH.nil
        go_simp
        go_at_call 65
        refine (text_d g B 3 _ D_29.out (by omega) (by omega)).mono ?_
        rintro e v30 ⟨tx_30, rfl, htx_30, HD_30, HG_30⟩
        have Gp_31 : Hid (w1.grownBy v30 (some g)) := grown_trans Gp_29.out HG_30.out
        have K_31 : Hid (Blk v30 v1.heap.size [.int .i64 0, .int .i64 0, .string ⟨#[]⟩, .string ⟨#[]⟩, .string ⟨#[]⟩, .string ⟨#[]⟩] 27) := K_29.out.grown HG_30.out (by simp; omega)
        have htz_30 : tx_30.size ≤ 3 := by have := htx_30.out; omega
        refine hK.out _ _ (⟨(N1.out.gr Gp_31.out hgw HPB.out).1.cell 0 rfl, (N1.out.gr Gp_31.out hgw HPB.out).1.cell 1 rfl, (N1.out.gr Gp_31.out hgw HPB.out).1.cell 2 rfl, (N1.out.gr Gp_31.out hgw HPB.out).1.cell 3 rfl, (N1.out.gr Gp_31.out hgw HPB.out).1.cell 4 rfl, (N1.out.gr Gp_31.out hgw HPB.out).1.cell 5 rfl, (N1.out.gr Gp_31.out hgw HPB.out).1.cell 6 rfl⟩) (fun hHeld => ?_)
        clear hK K
        try simp only [Act.put, List.setIfInBounds_toArray, List.set_cons_zero, List.set_cons_succ]
        refine wpAnyH_take (i := 21) (oi := { dst := Option.some 34, op := Go.Op.build 27 #[(0, Go.Operand.tmp 16), (1, Go.Operand.tmp 23), (2, Go.Operand.tmp 26), (3, Go.Operand.tmp 29), (4, Go.Operand.tmp 31), (5, Go.Operand.tmp 33)], type := 27, pos := "l11_verify.go:61", after := #[{ on := 3, ground := Go.Ground.data }, { on := 10, ground := Go.Ground.data }, { on := 13, ground := Go.Ground.data }, { on := 16, ground := Go.Ground.data }, { on := 18, ground := Go.Ground.data }, { on := 20, ground := Go.Ground.data }], guard := Option.none }) (v := ?_) rfl (by kernel_rfl) (by kernel_rfl) (by kernel_rfl) (fun _ _ _ h => h) (Or.inl ⟨by rfl, ?_⟩) hHeld ?_
        rotate_left
        · intro w hSw
          try dsimp only at hSw
          go_simp
          try (with_reducible rfl)
        simp only [Act.put, List.setIfInBounds_toArray, List.set_cons_zero, List.set_cons_succ]
        refine wpAnyH_ready (rs := [23]) (by kernel_rfl) (by decide) ?_
        refine AllReadyH.cons (o := { dst := Option.none, op := Go.Op.store 27 (Go.Operand.tmp 8) (Go.Operand.tmp 34), type := 0, pos := "l11_verify.go:61", after := #[{ on := 22, ground := Go.Ground.data }, { on := 21, ground := Go.Ground.data }, { on := 20, ground := Go.Ground.chain }, { on := 0, ground := Go.Ground.phase }, { on := 1, ground := Go.Ground.phase }, { on := 2, ground := Go.Ground.phase }, { on := 3, ground := Go.Ground.phase }, { on := 4, ground := Go.Ground.phase }, { on := 5, ground := Go.Ground.phase }, { on := 6, ground := Go.Ground.phase }, { on := 7, ground := Go.Ground.phase }, { on := 8, ground := Go.Ground.phase }, { on := 9, ground := Go.Ground.phase }, { on := 10, ground := Go.Ground.phase }, { on := 11, ground := Go.Ground.phase }, { on := 12, ground := Go.Ground.phase }, { on := 13, ground := Go.Ground.phase }, { on := 14, ground := Go.Ground.phase }, { on := 15, ground := Go.Ground.phase }, { on := 16, ground := Go.Ground.phase }, { on := 17, ground := Go.Ground.phase }, { on := 18, ground := Go.Ground.phase }, { on := 19, ground := Go.Ground.phase }, { on := 20, ground := Go.Ground.phase }, { on := 21, ground := Go.Ground.phase }, { on := 22, ground := Go.Ground.phase }], guard := Option.none }) rfl (fun K hK => ?_) AllReadyH.nil
        have KF_32 : Hid (Blk ((((((v30.setCell ⟨v1.heap.size, 0, none⟩ (.int .i64 (yh + 1))).setCell ⟨v1.heap.size, 1, none⟩ (.int .i64 (yt + 1 + x_1))).setCell ⟨v1.heap.size, 2, none⟩ (.string I)).setCell ⟨v1.heap.size, 3, none⟩ (.string yn)).setCell ⟨v1.heap.size, 4, none⟩ (.string S)).setCell ⟨v1.heap.size, 5, none⟩ (.string tx_30)) v1.heap.size [.int .i64 (yh + 1), .int .i64 (yt + 1 + x_1), .string I, .string yn, .string S, .string tx_30] 27) := ((((((K_31.out.set 0 _).set 1 _).set 2 _).set 3 _).set 4 _).set 5 _)
        have Gp_32 : Hid (w1.grownBy ((((((v30.setCell ⟨v1.heap.size, 0, none⟩ (.int .i64 (yh + 1))).setCell ⟨v1.heap.size, 1, none⟩ (.int .i64 (yt + 1 + x_1))).setCell ⟨v1.heap.size, 2, none⟩ (.string I)).setCell ⟨v1.heap.size, 3, none⟩ (.string yn)).setCell ⟨v1.heap.size, 4, none⟩ (.string S)).setCell ⟨v1.heap.size, 5, none⟩ (.string tx_30)) (some g)) := (gr_setnew (gr_setnew (gr_setnew (gr_setnew (gr_setnew (gr_setnew Gp_31.out hG_24 _) hG_24 _) hG_24 _) hG_24 _) hG_24 _) hG_24 _)
        have DF_32 : Hid (DS ((((((v30.setCell ⟨v1.heap.size, 0, none⟩ (.int .i64 (yh + 1))).setCell ⟨v1.heap.size, 1, none⟩ (.int .i64 (yt + 1 + x_1))).setCell ⟨v1.heap.size, 2, none⟩ (.string I)).setCell ⟨v1.heap.size, 3, none⟩ (.string yn)).setCell ⟨v1.heap.size, 4, none⟩ (.string S)).setCell ⟨v1.heap.size, 5, none⟩ (.string tx_30)) g B) := HD_30.out.below (((((((Below.refl B v30).setCell (p := ⟨v1.heap.size, 0, none⟩) (show B ≤ v1.heap.size by omega) _).setCell (p := ⟨v1.heap.size, 1, none⟩) (show B ≤ v1.heap.size by omega) _).setCell (p := ⟨v1.heap.size, 2, none⟩) (show B ≤ v1.heap.size by omega) _).setCell (p := ⟨v1.heap.size, 3, none⟩) (show B ≤ v1.heap.size by omega) _).setCell (p := ⟨v1.heap.size, 4, none⟩) (show B ≤ v1.heap.size by omega) _).setCell (p := ⟨v1.heap.size, 5, none⟩) (show B ≤ v1.heap.size by omega) _)
        have p_32_0 := K_31.out.cell 0 rfl
        have p_32_1 := K_31.out.cell 1 rfl
        have p_32_2 := K_31.out.cell 2 rfl
        have p_32_3 := K_31.out.cell 3 rfl
        have p_32_4 := K_31.out.cell 4 rfl
        have p_32_5 := K_31.out.cell 5 rfl
        have pf_32 := fun q => K_31.out.frozen q
        go_simp
        refine hK.out _ _ (⟨(N1.out.gr Gp_32.out hgw HPB.out).1.cell 0 rfl, (N1.out.gr Gp_32.out hgw HPB.out).1.cell 1 rfl, (N1.out.gr Gp_32.out hgw HPB.out).1.cell 2 rfl, (N1.out.gr Gp_32.out hgw HPB.out).1.cell 3 rfl, (N1.out.gr Gp_32.out hgw HPB.out).1.cell 4 rfl, (N1.out.gr Gp_32.out hgw HPB.out).1.cell 5 rfl, (N1.out.gr Gp_32.out hgw HPB.out).1.cell 6 rfl⟩) (fun hHeld => ?_)
        clear hK K
        try simp only [Act.put, List.setIfInBounds_toArray, List.set_cons_zero, List.set_cons_succ]
        refine wpAnyH_done (by kernel_rfl) ?_ _
        go_wp2_with fail
        go_meet
        exact ⟨v1.heap.size, ⟨yh + 1, yt + 1 + x_1, I, yn, S, tx_30⟩, rfl, ⟨by show 0 ≤ yh + 1; omega, by show yh + 1 ≤ 1500; omega, by show 0 ≤ yt + 1 + x_1; omega, by show yt + 1 + x_1 ≤ 1500; omega, by show I.size ≤ 40; omega, by show yn.size ≤ 40; omega, by show S.size ≤ 40; omega, by show tx_30.size ≤ 40; omega⟩, ⟨hG_24, KF_32.out⟩, DF_32, Gp_32⟩
    · have bA_33 : Below wd.heap.size wd (wd.alloc (Obj.cells #[.int .i64 0, .int .i64 0, .string ⟨#[]⟩, .string ⟨#[]⟩, .string ⟨#[]⟩, .string ⟨#[]⟩] 27)) := below_one _ _
      have D_34 : Hid (DS (wd.alloc (Obj.cells #[.int .i64 0, .int .i64 0, .string ⟨#[]⟩, .string ⟨#[]⟩, .string ⟨#[]⟩, .string ⟨#[]⟩] 27)) g B) := Dd.out.below (bA_33.mono (by have := Gd.out.size; omega))
      have Gp_34 : Hid (w1.grownBy (wd.alloc (Obj.cells #[.int .i64 0, .int .i64 0, .string ⟨#[]⟩, .string ⟨#[]⟩, .string ⟨#[]⟩, .string ⟨#[]⟩] 27)) (some g)) := gr_below Gd.out (bA_33.mono Gd.out.size)
      have K_33 : Hid (Blk (wd.alloc (Obj.cells #[.int .i64 0, .int .i64 0, .string ⟨#[]⟩, .string ⟨#[]⟩, .string ⟨#[]⟩, .string ⟨#[]⟩] 27)) wd.heap.size [.int .i64 0, .int .i64 0, .string ⟨#[]⟩, .string ⟨#[]⟩, .string ⟨#[]⟩, .string ⟨#[]⟩] 27) := blk_new wd _ _
      have hG_33 : w1.heap.size ≤ wd.heap.size := Gd.out.size
      go_simp
      generalize wd.alloc (Obj.cells #[.int .i64 0, .int .i64 0, .string ⟨#[]⟩, .string ⟨#[]⟩, .string ⟨#[]⟩, .string ⟨#[]⟩] 27) = wz_33 at *
      refine hK.out _ _ (⟨(N1.out.gr Gp_34.out hgw HPB.out).1.cell 0 rfl, (N1.out.gr Gp_34.out hgw HPB.out).1.cell 1 rfl, (N1.out.gr Gp_34.out hgw HPB.out).1.cell 2 rfl, (N1.out.gr Gp_34.out hgw HPB.out).1.cell 3 rfl, (N1.out.gr Gp_34.out hgw HPB.out).1.cell 4 rfl, (N1.out.gr Gp_34.out hgw HPB.out).1.cell 5 rfl, (N1.out.gr Gp_34.out hgw HPB.out).1.cell 6 rfl⟩) (fun hHeld => ?_)
      clear hK K
      try simp only [Act.put, List.setIfInBounds_toArray, List.set_cons_zero, List.set_cons_succ]
      refine wpAnyH_ready (rs := [9]) (by kernel_rfl) (by decide) ?_
      refine AllReadyH.cons (o := { dst := Option.some 22, op := Go.Op.call { callee := Go.Callee.value (Go.Operand.func 34), args := #[Go.Operand.tmp 21, Go.Operand.const (Go.Value.int Go.IntKind.i64 5)], argTypes := #[67, 3] }, type := 3, pos := "l11_verify.go:61", after := #[{ on := 8, ground := Go.Ground.data }], guard := Option.none }) rfl (fun K hK => ?_) AllReadyH.nil
      go_simp
      go_at_call 34
      refine (below_d g B 5 _ D_34.out (by omega)).mono ?_
      rintro e v35 ⟨x_35, rfl, xa_35, xb_35, HD_35, HG_35⟩
      have Gp_36 : Hid (w1.grownBy v35 (some g)) := grown_trans Gp_34.out HG_35.out
      have K_36 : Hid (Blk v35 wd.heap.size [.int .i64 0, .int .i64 0, .string ⟨#[]⟩, .string ⟨#[]⟩, .string ⟨#[]⟩, .string ⟨#[]⟩] 27) := K_33.out.grown HG_35.out (by simp; omega)
      have w3e_35 : IntKind.i64.wrap (yt + 1 + x_35) = yt + 1 + x_35 := i64_int _ (by omega) (by omega)
      refine hK.out _ _ (⟨(N1.out.gr Gp_36.out hgw HPB.out).1.cell 0 rfl, (N1.out.gr Gp_36.out hgw HPB.out).1.cell 1 rfl, (N1.out.gr Gp_36.out hgw HPB.out).1.cell 2 rfl, (N1.out.gr Gp_36.out hgw HPB.out).1.cell 3 rfl, (N1.out.gr Gp_36.out hgw HPB.out).1.cell 4 rfl, (N1.out.gr Gp_36.out hgw HPB.out).1.cell 5 rfl, (N1.out.gr Gp_36.out hgw HPB.out).1.cell 6 rfl⟩) (fun hHeld => ?_)
      clear hK K
      try simp only [Act.put, List.setIfInBounds_toArray, List.set_cons_zero, List.set_cons_succ]
      refine wpAnyH_take (i := 10) (oi := { dst := Option.some 23, op := Go.Op.binOp Go.BinOp.add 3 (Go.Operand.tmp 20) (Go.Operand.tmp 22) 3, type := 3, pos := "l11_verify.go:61", after := #[{ on := 7, ground := Go.Ground.data }, { on := 9, ground := Go.Ground.data }], guard := Option.none }) (v := ?_) rfl (by kernel_rfl) (by kernel_rfl) (by kernel_rfl) (fun _ _ _ h => h) (Or.inl ⟨by rfl, ?_⟩) hHeld ?_
      rotate_left
      · intro w hSw
        try dsimp only at hSw
        go_simp
        try (with_reducible rfl)
      simp only [Act.put, List.setIfInBounds_toArray, List.set_cons_zero, List.set_cons_succ]
      refine wpAnyH_ready (rs := [13]) (by kernel_rfl) (by decide) ?_
      refine AllReadyH.cons (o := { dst := Option.some 26, op := Go.Op.call { callee := Go.Callee.value (Go.Operand.func 11), args := #[Go.Operand.tmp 25], argTypes := #[27] }, type := 9, pos := "l11_verify.go:61", after := #[{ on := 12, ground := Go.Ground.data }, { on := 9, ground := Go.Ground.chain }], guard := Option.none }) rfl (fun K hK => ?_) AllReadyH.nil
      go_simp
      go_at_call 11
      refine (kI _).mono ?_
      rintro e v37 ⟨rfl, bb_37⟩
      have D_38 : Hid (DS v37 g B) := HD_35.out.below (bb_37.mono (by have := Gp_36.out.size; omega))
      have Gp_38 : Hid (w1.grownBy v37 (some g)) := gr_below Gp_36.out (bb_37.mono Gp_36.out.size)
      have K_38 : Hid (Blk v37 wd.heap.size [.int .i64 0, .int .i64 0, .string ⟨#[]⟩, .string ⟨#[]⟩, .string ⟨#[]⟩, .string ⟨#[]⟩] 27) := K_36.out.below bb_37 K_36.out.lt
      refine hK.out _ _ (⟨(N1.out.gr Gp_38.out hgw HPB.out).1.cell 0 rfl, (N1.out.gr Gp_38.out hgw HPB.out).1.cell 1 rfl, (N1.out.gr Gp_38.out hgw HPB.out).1.cell 2 rfl, (N1.out.gr Gp_38.out hgw HPB.out).1.cell 3 rfl, (N1.out.gr Gp_38.out hgw HPB.out).1.cell 4 rfl, (N1.out.gr Gp_38.out hgw HPB.out).1.cell 5 rfl, (N1.out.gr Gp_38.out hgw HPB.out).1.cell 6 rfl⟩) (fun hHeld => ?_)
      clear hK K
      try simp only [Act.put, List.setIfInBounds_toArray, List.set_cons_zero, List.set_cons_succ]
      refine wpAnyH_ready (rs := [18]) (by kernel_rfl) (by decide) ?_
      refine AllReadyH.cons (o := { dst := Option.some 31, op := Go.Op.call { callee := Go.Callee.value (Go.Operand.func 48), args := #[Go.Operand.tmp 30], argTypes := #[28] }, type := 9, pos := "l11_verify.go:61", after := #[{ on := 17, ground := Go.Ground.data }, { on := 13, ground := Go.Ground.chain }], guard := Option.none }) rfl (fun K hK => ?_) AllReadyH.nil
      go_simp
      go_at_call 48
      refine (kV _ (V1.out.call Gp_38.out hglo).1).mono ?_
      rintro e v39 ⟨rfl, bb_39⟩
      have D_40 : Hid (DS v39 g B) := D_38.out.below (bb_39.mono (by have := Gp_38.out.size; omega))
      have Gp_40 : Hid (w1.grownBy v39 (some g)) := gr_below Gp_38.out (bb_39.mono Gp_38.out.size)
      have K_40 : Hid (Blk v39 wd.heap.size [.int .i64 0, .int .i64 0, .string ⟨#[]⟩, .string ⟨#[]⟩, .string ⟨#[]⟩, .string ⟨#[]⟩] 27) := K_38.out.below bb_39 K_38.out.lt
      refine hK.out _ _ (⟨(N1.out.gr Gp_40.out hgw HPB.out).1.cell 0 rfl, (N1.out.gr Gp_40.out hgw HPB.out).1.cell 1 rfl, (N1.out.gr Gp_40.out hgw HPB.out).1.cell 2 rfl, (N1.out.gr Gp_40.out hgw HPB.out).1.cell 3 rfl, (N1.out.gr Gp_40.out hgw HPB.out).1.cell 4 rfl, (N1.out.gr Gp_40.out hgw HPB.out).1.cell 5 rfl, (N1.out.gr Gp_40.out hgw HPB.out).1.cell 6 rfl⟩) (fun hHeld => ?_)
      clear hK K
      try simp only [Act.put, List.setIfInBounds_toArray, List.set_cons_zero, List.set_cons_succ]
      refine wpAnyH_ready (rs := [20]) (by kernel_rfl) (by decide) ?_
      refine AllReadyH.cons (o := { dst := Option.some 33, op := Go.Op.call { callee := Go.Callee.value (Go.Operand.func 65), args := #[Go.Operand.tmp 32, Go.Operand.const (Go.Value.int Go.IntKind.i64 3)], argTypes := #[67, 3] }, type := 9, pos := "l11_verify.go:61", after := #[{ on := 19, ground := Go.Ground.data }, { on := 18, ground := Go.Ground.chain }], guard := Option.none }) rfl (fun K hK => ?_) AllReadyH.nil
      go_simp
      go_at_call 65
      refine (text_d g B 3 _ D_40.out (by omega) (by omega)).mono ?_
      rintro e v41 ⟨tx_41, rfl, htx_41, HD_41, HG_41⟩
      have Gp_42 : Hid (w1.grownBy v41 (some g)) := grown_trans Gp_40.out HG_41.out
      have K_42 : Hid (Blk v41 wd.heap.size [.int .i64 0, .int .i64 0, .string ⟨#[]⟩, .string ⟨#[]⟩, .string ⟨#[]⟩, .string ⟨#[]⟩] 27) := K_40.out.grown HG_41.out (by simp; omega)
      have htz_41 : tx_41.size ≤ 3 := by have := htx_41.out; omega
      refine hK.out _ _ (⟨(N1.out.gr Gp_42.out hgw HPB.out).1.cell 0 rfl, (N1.out.gr Gp_42.out hgw HPB.out).1.cell 1 rfl, (N1.out.gr Gp_42.out hgw HPB.out).1.cell 2 rfl, (N1.out.gr Gp_42.out hgw HPB.out).1.cell 3 rfl, (N1.out.gr Gp_42.out hgw HPB.out).1.cell 4 rfl, (N1.out.gr Gp_42.out hgw HPB.out).1.cell 5 rfl, (N1.out.gr Gp_42.out hgw HPB.out).1.cell 6 rfl⟩) (fun hHeld => ?_)
      clear hK K
      try simp only [Act.put, List.setIfInBounds_toArray, List.set_cons_zero, List.set_cons_succ]
      refine wpAnyH_take (i := 21) (oi := { dst := Option.some 34, op := Go.Op.build 27 #[(0, Go.Operand.tmp 16), (1, Go.Operand.tmp 23), (2, Go.Operand.tmp 26), (3, Go.Operand.tmp 29), (4, Go.Operand.tmp 31), (5, Go.Operand.tmp 33)], type := 27, pos := "l11_verify.go:61", after := #[{ on := 3, ground := Go.Ground.data }, { on := 10, ground := Go.Ground.data }, { on := 13, ground := Go.Ground.data }, { on := 16, ground := Go.Ground.data }, { on := 18, ground := Go.Ground.data }, { on := 20, ground := Go.Ground.data }], guard := Option.none }) (v := ?_) rfl (by kernel_rfl) (by kernel_rfl) (by kernel_rfl) (fun _ _ _ h => h) (Or.inl ⟨by rfl, ?_⟩) hHeld ?_
      rotate_left
      · intro w hSw
        try dsimp only at hSw
        go_simp
        try (with_reducible rfl)
      simp only [Act.put, List.setIfInBounds_toArray, List.set_cons_zero, List.set_cons_succ]
      refine wpAnyH_ready (rs := [23]) (by kernel_rfl) (by decide) ?_
      refine AllReadyH.cons (o := { dst := Option.none, op := Go.Op.store 27 (Go.Operand.tmp 8) (Go.Operand.tmp 34), type := 0, pos := "l11_verify.go:61", after := #[{ on := 22, ground := Go.Ground.data }, { on := 21, ground := Go.Ground.data }, { on := 20, ground := Go.Ground.chain }, { on := 0, ground := Go.Ground.phase }, { on := 1, ground := Go.Ground.phase }, { on := 2, ground := Go.Ground.phase }, { on := 3, ground := Go.Ground.phase }, { on := 4, ground := Go.Ground.phase }, { on := 5, ground := Go.Ground.phase }, { on := 6, ground := Go.Ground.phase }, { on := 7, ground := Go.Ground.phase }, { on := 8, ground := Go.Ground.phase }, { on := 9, ground := Go.Ground.phase }, { on := 10, ground := Go.Ground.phase }, { on := 11, ground := Go.Ground.phase }, { on := 12, ground := Go.Ground.phase }, { on := 13, ground := Go.Ground.phase }, { on := 14, ground := Go.Ground.phase }, { on := 15, ground := Go.Ground.phase }, { on := 16, ground := Go.Ground.phase }, { on := 17, ground := Go.Ground.phase }, { on := 18, ground := Go.Ground.phase }, { on := 19, ground := Go.Ground.phase }, { on := 20, ground := Go.Ground.phase }, { on := 21, ground := Go.Ground.phase }, { on := 22, ground := Go.Ground.phase }], guard := Option.none }) rfl (fun K hK => ?_) AllReadyH.nil
      have KF_43 : Hid (Blk ((((((v41.setCell ⟨wd.heap.size, 0, none⟩ (.int .i64 (yh + 1))).setCell ⟨wd.heap.size, 1, none⟩ (.int .i64 (yt + 1 + x_35))).setCell ⟨wd.heap.size, 2, none⟩ (.string I)).setCell ⟨wd.heap.size, 3, none⟩ (.string yn)).setCell ⟨wd.heap.size, 4, none⟩ (.string S)).setCell ⟨wd.heap.size, 5, none⟩ (.string tx_41)) wd.heap.size [.int .i64 (yh + 1), .int .i64 (yt + 1 + x_35), .string I, .string yn, .string S, .string tx_41] 27) := ((((((K_42.out.set 0 _).set 1 _).set 2 _).set 3 _).set 4 _).set 5 _)
      have Gp_43 : Hid (w1.grownBy ((((((v41.setCell ⟨wd.heap.size, 0, none⟩ (.int .i64 (yh + 1))).setCell ⟨wd.heap.size, 1, none⟩ (.int .i64 (yt + 1 + x_35))).setCell ⟨wd.heap.size, 2, none⟩ (.string I)).setCell ⟨wd.heap.size, 3, none⟩ (.string yn)).setCell ⟨wd.heap.size, 4, none⟩ (.string S)).setCell ⟨wd.heap.size, 5, none⟩ (.string tx_41)) (some g)) := (gr_setnew (gr_setnew (gr_setnew (gr_setnew (gr_setnew (gr_setnew Gp_42.out hG_33 _) hG_33 _) hG_33 _) hG_33 _) hG_33 _) hG_33 _)
      have DF_43 : Hid (DS ((((((v41.setCell ⟨wd.heap.size, 0, none⟩ (.int .i64 (yh + 1))).setCell ⟨wd.heap.size, 1, none⟩ (.int .i64 (yt + 1 + x_35))).setCell ⟨wd.heap.size, 2, none⟩ (.string I)).setCell ⟨wd.heap.size, 3, none⟩ (.string yn)).setCell ⟨wd.heap.size, 4, none⟩ (.string S)).setCell ⟨wd.heap.size, 5, none⟩ (.string tx_41)) g B) := HD_41.out.below (((((((Below.refl B v41).setCell (p := ⟨wd.heap.size, 0, none⟩) (show B ≤ wd.heap.size by omega) _).setCell (p := ⟨wd.heap.size, 1, none⟩) (show B ≤ wd.heap.size by omega) _).setCell (p := ⟨wd.heap.size, 2, none⟩) (show B ≤ wd.heap.size by omega) _).setCell (p := ⟨wd.heap.size, 3, none⟩) (show B ≤ wd.heap.size by omega) _).setCell (p := ⟨wd.heap.size, 4, none⟩) (show B ≤ wd.heap.size by omega) _).setCell (p := ⟨wd.heap.size, 5, none⟩) (show B ≤ wd.heap.size by omega) _)
      have p_43_0 := K_42.out.cell 0 rfl
      have p_43_1 := K_42.out.cell 1 rfl
      have p_43_2 := K_42.out.cell 2 rfl
      have p_43_3 := K_42.out.cell 3 rfl
      have p_43_4 := K_42.out.cell 4 rfl
      have p_43_5 := K_42.out.cell 5 rfl
      have pf_43 := fun q => K_42.out.frozen q
      go_simp
      refine hK.out _ _ (⟨(N1.out.gr Gp_43.out hgw HPB.out).1.cell 0 rfl, (N1.out.gr Gp_43.out hgw HPB.out).1.cell 1 rfl, (N1.out.gr Gp_43.out hgw HPB.out).1.cell 2 rfl, (N1.out.gr Gp_43.out hgw HPB.out).1.cell 3 rfl, (N1.out.gr Gp_43.out hgw HPB.out).1.cell 4 rfl, (N1.out.gr Gp_43.out hgw HPB.out).1.cell 5 rfl, (N1.out.gr Gp_43.out hgw HPB.out).1.cell 6 rfl⟩) (fun hHeld => ?_)
      clear hK K
      try simp only [Act.put, List.setIfInBounds_toArray, List.set_cons_zero, List.set_cons_succ]
      refine wpAnyH_done (by kernel_rfl) ?_ _
      go_wp2_with fail
      go_meet
      exact ⟨wd.heap.size, ⟨yh + 1, yt + 1 + x_35, I, yn, S, tx_41⟩, rfl, ⟨by show 0 ≤ yh + 1; omega, by show yh + 1 ≤ 1500; omega, by show 0 ≤ yt + 1 + x_35; omega, by show yt + 1 + x_35 ≤ 1500; omega, by show I.size ≤ 40; omega, by show yn.size ≤ 40; omega, by show S.size ≤ 40; omega, by show tx_41.size ≤ 40; omega⟩, ⟨hG_33, KF_43.out⟩, DF_43, Gp_43⟩
  case rest =>
  rename World => w2
  obtain ⟨b6, ⟨xh, xt, xa, xv, xn, xd⟩, rfl, HX, HK, D2, G12⟩ := hcut
  have hb6 : w1.heap.size ≤ b6 := HK.out.1
  have H6 : Hid (Blk w2 b6 [.int .i64 xh, .int .i64 xt, .string xa, .string xv, .string xn, .string xd] 27) := HK.out.2
  have hb6l : b6 < w2.heap.size := H6.out.lt
  clear HK D1 Dd Gd kI
  go_wp2_with fail
  refine (once_d g B 3 _ D2.out).mono ?_
  rintro e w3 ⟨t, rfl, D3, HG⟩
  have H63 : Hid (Blk w3 b6 [.int .i64 xh, .int .i64 xt, .string xa, .string xv, .string xn, .string xd] 27) := H6.out.grown HG.out (by simp; omega)
  have G13 : Hid (w1.grownBy w3 (some g)) := grown_trans G12.out HG.out
  clear HG H6 G12 D2
  go_upto_if 36 with fail
  go_cut [7] (fun s wx => ∃ (va : Option Addr) (vc : Nat) (nz : List V) (x : H), s = .slice va nz.length vc ∧ Hid (DrY x) ∧ Hid (Blk wx b6 (hcs x).toList 27) ∧ Hid (DrR wx w0.heap.size va vc nz) ∧ Hid (DS wx g B) ∧ Hid (w1.grownBy wx (some g)))
  case first =>
    obtain ⟨e1, e2, e3, e4, e5, e6, e7, e8⟩ := HX.out
    simp only at e1 e2 e3 e4 e5 e6 e7 e8
    have HXy : Hid (DrY ⟨xh, xt, xa, xv, xn, xd⟩) := ⟨by show 0 ≤ xh; omega, by show xh ≤ 2000; omega, by show 0 ≤ xt; omega, by show xt ≤ 2000; omega, e5, e6, e7, e8⟩
    have w4e : IntKind.i64.wrap (xh + 1) = xh + 1 := i64_int _ (by omega) (by omega)
    have hvb : Hid (∀ b o, un = some ⟨b, o, none⟩ → b ≠ b6) := fun b o e => by have := V1.out.2.2.2 b o e; omega
    rcases t with _ | _
    · go_wp2_with fail
      go_meet
      exact ⟨un, cn, nx, ⟨xh, xt, xa, xv, xn, xd⟩, rfl, HXy, H63, V1.out.call G13.out hglo, D3, G13⟩
    go_wp2_with fail
    refine (below_d g B 6 _ D3.out (by omega)).mono ?_
    rintro e w4 ⟨k, rfl, k0, k1, D4, HG⟩
    have H64 : Hid (Blk w4 b6 [.int .i64 xh, .int .i64 xt, .string xa, .string xv, .string xn, .string xd] 27) := H63.out.grown HG.out (by simp; omega)
    have G14 : Hid (w1.grownBy w4 (some g)) := grown_trans G13.out HG.out
    clear HG H63 G13 D3
    have N4 := N1.out.gr G14.out hgw HPB.out
    have V4 : Hid (DrR w4 w0.heap.size un cn nx) := V1.out.call G14.out hglo
    have x0 := H64.out.cell 0 rfl
    have f0 := H64.out.frozen 0
    have x1 := H64.out.cell 1 rfl
    have f1 := H64.out.frozen 1
    have x2 := H64.out.cell 2 rfl
    have f2 := H64.out.frozen 2
    have x3 := H64.out.cell 3 rfl
    have f3 := H64.out.frozen 3
    have x4 := H64.out.cell 4 rfl
    have f4 := H64.out.frozen 4
    have x5 := H64.out.cell 5 rfl
    have f5 := H64.out.frozen 5
    have ya1 := N4.1.cell 1 rfl
    have hk : k = 0 ∨ k = 1 ∨ k = 2 ∨ k = 3 ∨ k = 4 ∨ k = 5 := by omega
    clear k0 k1 N4
    rcases hk with rfl | rfl | rfl | rfl | rfl | rfl
    · skip
      go_wp2_with fail
      go_meet
      exact ⟨un, cn, nx, ⟨xh + 1, xt, xa, xv, xn, xd⟩, rfl, ⟨by show 0 ≤ xh + 1; omega, by show xh + 1 ≤ 2000; omega, by show 0 ≤ xt; omega, by show xt ≤ 2000; omega, by show (xa : ByteArray).size ≤ 40; first | omega | decide, by show (xv : ByteArray).size ≤ 40; first | omega | decide, by show (xn : ByteArray).size ≤ 40; first | omega | decide, by show (xd : ByteArray).size ≤ 40; first | omega | decide⟩, H64.out.set 0 _, V4.out.set 0 _ hvb.out, D4.out.below ((Below.refl B w4).setCell (p := ⟨b6, 0, none⟩) (show B ≤ b6 by omega) _), gr_setnew G14.out hb6 _⟩
    · skip
      go_wp2_with fail
      go_meet
      exact ⟨un, cn, nx, ⟨xh, yt, xa, xv, xn, xd⟩, rfl, ⟨by show 0 ≤ xh; omega, by show xh ≤ 2000; omega, by show 0 ≤ yt; omega, by show yt ≤ 2000; omega, by show (xa : ByteArray).size ≤ 40; first | omega | decide, by show (xv : ByteArray).size ≤ 40; first | omega | decide, by show (xn : ByteArray).size ≤ 40; first | omega | decide, by show (xd : ByteArray).size ≤ 40; first | omega | decide⟩, H64.out.set 1 _, V4.out.set 1 _ hvb.out, D4.out.below ((Below.refl B w4).setCell (p := ⟨b6, 1, none⟩) (show B ≤ b6 by omega) _), gr_setnew G14.out hb6 _⟩
    · go_wp2_with fail
      refine (spec_short ⟨#[113]⟩ _ (by decide)).mono ?_
      rintro e w5 ⟨rfl, bb⟩
      have hsb := size_shortB (⟨#[113]⟩ : ByteArray)
      generalize shortB (⟨#[113]⟩ : ByteArray) = SB at *
      have H65 : Hid (Blk w5 b6 [.int .i64 xh, .int .i64 xt, .string xa, .string xv, .string xn, .string xd] 27) := H64.out.below bb H64.out.lt
      have D5 : Hid (DS w5 g B) := D4.out.below (bb.mono (by have := G14.out.size; omega))
      have G15 : Hid (w1.grownBy w5 (some g)) := gr_below G14.out (bb.mono G14.out.size)
      have V5 : Hid (DrR w5 w0.heap.size un cn nx) := V4.out.below bb
      clear x0 f0 x1 f1 x2 f2 x3 f3 x4 f4 x5 f5 H64 D4 G14 V4 bb ya1
      have x0 := H65.out.cell 0 rfl
      have f0 := H65.out.frozen 0
      have x1 := H65.out.cell 1 rfl
      have f1 := H65.out.frozen 1
      have x2 := H65.out.cell 2 rfl
      have f2 := H65.out.frozen 2
      have x3 := H65.out.cell 3 rfl
      have f3 := H65.out.frozen 3
      have x4 := H65.out.cell 4 rfl
      have f4 := H65.out.frozen 4
      have x5 := H65.out.cell 5 rfl
      have f5 := H65.out.frozen 5
      go_wp2_with fail
      go_meet
      exact ⟨un, cn, nx, ⟨xh, xt, SB, xv, xn, xd⟩, rfl, ⟨by show 0 ≤ xh; omega, by show xh ≤ 2000; omega, by show 0 ≤ xt; omega, by show xt ≤ 2000; omega, by show (SB : ByteArray).size ≤ 40; first | omega | decide, by show (xv : ByteArray).size ≤ 40; first | omega | decide, by show (xn : ByteArray).size ≤ 40; first | omega | decide, by show (xd : ByteArray).size ≤ 40; first | omega | decide⟩, H65.out.set 2 _, V5.out.set 2 _ hvb.out, D5.out.below ((Below.refl B w5).setCell (p := ⟨b6, 2, none⟩) (show B ≤ b6 by omega) _), gr_setnew G15.out hb6 _⟩
    · go_wp2_with fail
      refine (spec_short ⟨#[113]⟩ _ (by decide)).mono ?_
      rintro e w5 ⟨rfl, bb⟩
      have hsb := size_shortB (⟨#[113]⟩ : ByteArray)
      generalize shortB (⟨#[113]⟩ : ByteArray) = SB at *
      have H65 : Hid (Blk w5 b6 [.int .i64 xh, .int .i64 xt, .string xa, .string xv, .string xn, .string xd] 27) := H64.out.below bb H64.out.lt
      have D5 : Hid (DS w5 g B) := D4.out.below (bb.mono (by have := G14.out.size; omega))
      have G15 : Hid (w1.grownBy w5 (some g)) := gr_below G14.out (bb.mono G14.out.size)
      have V5 : Hid (DrR w5 w0.heap.size un cn nx) := V4.out.below bb
      clear x0 f0 x1 f1 x2 f2 x3 f3 x4 f4 x5 f5 H64 D4 G14 V4 bb ya1
      have x0 := H65.out.cell 0 rfl
      have f0 := H65.out.frozen 0
      have x1 := H65.out.cell 1 rfl
      have f1 := H65.out.frozen 1
      have x2 := H65.out.cell 2 rfl
      have f2 := H65.out.frozen 2
      have x3 := H65.out.cell 3 rfl
      have f3 := H65.out.frozen 3
      have x4 := H65.out.cell 4 rfl
      have f4 := H65.out.frozen 4
      have x5 := H65.out.cell 5 rfl
      have f5 := H65.out.frozen 5
      go_wp2_with fail
      go_meet
      exact ⟨un, cn, nx, ⟨xh, xt, xa, SB, xn, xd⟩, rfl, ⟨by show 0 ≤ xh; omega, by show xh ≤ 2000; omega, by show 0 ≤ xt; omega, by show xt ≤ 2000; omega, by show (xa : ByteArray).size ≤ 40; first | omega | decide, by show (SB : ByteArray).size ≤ 40; first | omega | decide, by show (xn : ByteArray).size ≤ 40; first | omega | decide, by show (xd : ByteArray).size ≤ 40; first | omega | decide⟩, H65.out.set 3 _, V5.out.set 3 _ hvb.out, D5.out.below ((Below.refl B w5).setCell (p := ⟨b6, 3, none⟩) (show B ≤ b6 by omega) _), gr_setnew G15.out hb6 _⟩
    · go_wp2_with fail
      refine (any_d g B w4 D4.out (by have := G14.out.size; omega)).mono ?_
      rintro e w5 ⟨v2, nz, rfl, HV2, HL2, D5, HG⟩
      obtain ⟨va, vc, rfl, HVd2⟩ := OwnV.dr HV2.out HL2.out.1
      have H65 : Hid (Blk w5 b6 [.int .i64 xh, .int .i64 xt, .string xa, .string xv, .string xn, .string xd] 27) := H64.out.grown HG.out (by simp; omega)
      have G15 : Hid (w1.grownBy w5 (some g)) := grown_trans G14.out HG.out
      have hs14 := G14.out.size
      go_wp2_with fail
      go_meet
      exact ⟨va, vc, nz, ⟨xh, xt, xa, xv, xn, xd⟩, rfl, HXy, H65, HVd2.lo (by omega), D5, G15⟩
    · skip
      go_wp2_with fail
      go_meet
      exact ⟨un, cn, nx, ⟨xh, xt, xa, xv, xn, ⟨#[97, 97, 97, 97, 97, 97, 97, 97, 97, 97, 97, 97, 97, 97, 97, 97, 97, 97, 97, 97, 97]⟩⟩, rfl, ⟨by show 0 ≤ xh; omega, by show xh ≤ 2000; omega, by show 0 ≤ xt; omega, by show xt ≤ 2000; omega, by show (xa : ByteArray).size ≤ 40; first | omega | decide, by show (xv : ByteArray).size ≤ 40; first | omega | decide, by show (xn : ByteArray).size ≤ 40; first | omega | decide, by show (⟨#[97, 97, 97, 97, 97, 97, 97, 97, 97, 97, 97, 97, 97, 97, 97, 97, 97, 97, 97, 97, 97]⟩ : ByteArray).size ≤ 40; first | omega | decide⟩, H64.out.set 5 _, V4.out.set 5 _ hvb.out, D4.out.below ((Below.refl B w4).setCell (p := ⟨b6, 5, none⟩) (show B ≤ b6 by omega) _), gr_setnew G14.out hb6 _⟩
  case rest =>
  rename World => w4
  obtain ⟨va, vc, nz, x, rfl, HXx, H6, V4, D4, G14⟩ := hcut
  clear HX H63 D3 G13 V1 kV hS8
  have N4 : Hid (NxB w w4 ⟨yh, yt, ya, yv, yn, yd⟩ p cap l) := N1.out.gr G14.out hgw HPB.out
  have hs4 : w1.heap.size ≤ w4.heap.size := G14.out.size
  have h64 : b6 < w4.heap.size := H6.out.lt
  have Gw4 : Hid (w.grownBy w4 (some g)) := grown_trans G1.out G14.out
  have HA0 : Hid (AS w4 (w4.alloc (.cells #[] 3)) g B b6 x (.slice (some ⟨w4.heap.size, 0, none⟩) 0 0) []) :=
    ⟨D4.out.below ((below_one w4 _).mono (by omega)), gr_alloc (gr_refl _ _) _, World.ownsRow_made w4 #[] 0 (Nat.le_refl _) (by decide) rfl, H6.out.alloc _, h64, by omega, by omega, by omega⟩
  clear N1 G1 G14 H6 D4
  go_wp2
  go_loopw [9, 10] (fun qv iv wr => ∃ (k : Nat) (zs : List Int), k ≤ l.length ∧ iv = .int .i64 k ∧ zs.length ≤ k ∧ Hid (AS w4 wr g B b6 x qv zs)) (fun _ iv _ => l.length - (intOf iv).toNat)
  case atStart => exact ⟨0, [], Nat.zero_le _, rfl, Nat.le_refl _, HA0⟩
  case round =>
    clear HA0
    obtain ⟨k, zs, hk, rfl, hzk, HA⟩ := hrel
    have N5 := N4.out.gr HA.out.2.1 hgw HPB.out
    have a6 := N5.1.cell 6 rfl
    by_cases hlt : k < l.length
    · have hltz : (k : Int) < (l.length : Int) := by omega
      clear N5
      go_wp2_with fail
      refine (once_d g B 9 _ HA.out.1).mono ?_
      rintro e w5 ⟨t, rfl, HD5, HG5⟩
      have HA5 : Hid (AS w4 w5 g B b6 x _ zs) := HA.out.call HD5.out HG5.out
      clear HA HD5 HG5 a6
      rcases t with _ | _
      · have N6 := N4.out.gr HA5.out.2.1 hgw HPB.out
        have a6 := N6.1.cell 6 rfl
        rcases N6.2.2.2 with h0 | ⟨b, o, rfl, hv⟩
        · omega
        have c0 := (hv k hlt).1
        have c1 := (hv k hlt).2
        clear hv
        generalize l[k].i = z at *
        generalize l[k].p = zp at *
        obtain ⟨qa, qc, rfl⟩ := own_shape HA5.out.2.2.1
        have HC : Hid (_) := one_int w5 z
        have HO5 : Hid (OwnI (w5.alloc (.cells #[.int .i64 z] 3)) w4.heap.size (.slice qa zs.length qc) zs) := own_keep HA5.out.2.2.1 (below_one _ _)
        have hT5 : w4.heap.size ≤ w5.heap.size := HA5.out.2.1.size
        clear N6
        go_wp2_with (at_builtin; refine wpList_append_own _ rfl _ _ 42 rfl w4.heap.size 3 i3 (.int .i64 0) 1 8 Tryz.underlying42 hinf3 hy0 hy1 hy2 rfl (by decide) _ _ _ rfl HO5.out ⟨w5.heap.size, 0, none⟩ 1 1 ([i64v z]) rfl rfl HC.out (i64v_one [z]) (by unfold maxLen; omega) (by omega) (by simp; omega) ?_)
        intro v' w6 hown' hgrow _
        have HA6 : Hid (AS w4 w6 g B b6 x v' (zs ++ [z])) := AS.app (n := 0) HA5.out (below_one _ _) hgrow (own_snocI hown')
        clear hown' hgrow HC HO5 HA5 c0 c1 a6
        go_wp2
        go_roundw
        case rel =>
          have R : ∃ (k' : Nat) (zs' : List Int), k' ≤ l.length ∧ Value.int .i64 ((k : Int) + 1) = .int .i64 k' ∧ zs'.length ≤ k' ∧ Hid (AS w4 w6 g B b6 x v' zs') := ⟨k + 1, zs ++ [z], by omega, by go_num, by simp; omega, HA6⟩
          first | exact R | ((repeat apply Exists.intro); exact ⟨R, rfl⟩)
        case measure => simp [intOf]; omega
      · go_wp2
        go_roundw
        case rel =>
          have R : ∃ (k' : Nat) (zs' : List Int), k' ≤ l.length ∧ Value.int .i64 ((k : Int) + 1) = .int .i64 k' ∧ zs'.length ≤ k' ∧ Hid (AS w4 w5 g B b6 x _ zs') := ⟨k + 1, zs, by omega, by go_num, by omega, HA5⟩
          first | exact R | ((repeat apply Exists.intro); exact ⟨R, rfl⟩)
        case measure => simp [intOf]; omega
    · have hltz : ¬ (k : Int) < (l.length : Int) := by omega
      obtain ⟨qa, qc, rfl⟩ := own_shape HA.out.2.2.1
      have hz8 : zs.length ≤ 8 := by omega
      clear N5
      have Vr : Hid (DrR wr w0.heap.size va vc nz) := V4.out.call HA.out.2.1 hglo
      have Nr : Hid (NxB w wr ⟨yh, yt, ya, yv, yn, yd⟩ p cap l) := N4.out.gr HA.out.2.1 hgw HPB.out
      have Gr : Hid (w.grownBy wr (some g)) := grown_trans Gw4.out HA.out.2.1
      have Hr : Hid (Blk wr b6 (hcs x).toList 27) := HA.out.2.2.2.1
      have Ir : Hid (OwnI wr w4.heap.size (.slice qa zs.length qc) zs) := HA.out.2.2.1
      have Dr : Hid (DS wr g B) := HA.out.1
      have hgb6 : g ≠ b6 := by omega
      have hr4 : w4.heap.size ≤ wr.heap.size := HA.out.2.1.size
      clear HA N4 Gw4 V4
      have kF := fun rd W (h : Nms W qa zs) => for_d x rd qa qc zs W h (by omega)
      have hI8 := size_headI x
      generalize headI x = J at *
      obtain ⟨xh, xt, xa, xv, xn, xd⟩ := x
      unfold hV cQ9 at kF
      unfold hcs at Hr
      simp only at kF
      have Vd : Hid (DrR wr.drew w0.heap.size va vc nz) := Vr.out.below (Below.refl _ _).drew
      have Gd : Hid (wr.grownBy wr.drew (some g)) := gr_below (gr_refl wr _) (Below.refl _ _).drew
      have Dd : Hid (DS wr.drew g B) := Dr.out.below (Below.refl _ _).drew
      go_upto_region 22 with fail
      refine wp_region_held_drew (S := (fun W : World => W.cell? ⟨b6, 0, none⟩ = some (.int .i64 xh) ∧ W.cell? ⟨b6, 1, none⟩ = some (.int .i64 xt) ∧ W.cell? ⟨b6, 2, none⟩ = some (.string xa) ∧ W.cell? ⟨b6, 3, none⟩ = some (.string xv) ∧ W.cell? ⟨b6, 4, none⟩ = some (.string xn) ∧ W.cell? ⟨b6, 5, none⟩ = some (.string xd))) (by kernel_rfl) ?_ (fun hHeld => ?_)
      · exact ⟨(Hr.out.grown Gd.out (by simp; omega)).cell 0 rfl, (Hr.out.grown Gd.out (by simp; omega)).cell 1 rfl, (Hr.out.grown Gd.out (by simp; omega)).cell 2 rfl, (Hr.out.grown Gd.out (by simp; omega)).cell 3 rfl, (Hr.out.grown Gd.out (by simp; omega)).cell 4 rfl, (Hr.out.grown Gd.out (by simp; omega)).cell 5 rfl⟩
      generalize wr.drew = wd at *
      refine wpAnyH_take (i := 0) (oi := { dst := Option.some 84, op := Go.Op.load 27 (Go.Operand.tmp 8), type := 27, pos := "l11_verify.go:84", after := #[], guard := Option.none }) (v := ?_) rfl (by kernel_rfl) (by kernel_rfl) (by kernel_rfl) (fun _ _ _ h => h) (Or.inl ⟨by rfl, ?_⟩) hHeld ?_
      rotate_left
      · intro w hSw
        try dsimp only at hSw
        go_simp
        try (with_reducible rfl)
      simp only [Act.put, List.setIfInBounds_toArray, List.set_cons_zero, List.set_cons_succ]
      refine wpAnyH_take (i := 1) (oi := { dst := Option.some 85, op := Go.Op.move (Go.Operand.tmp 7), type := 28, pos := "l11_verify.go:84", after := #[{ on := 7, ground := Go.Ground.gcOnly Go.Departure.lateStores }], guard := Option.none }) (v := ?_) rfl (by kernel_rfl) (by kernel_rfl) (by kernel_rfl) (fun _ _ _ h => h) (Or.inl ⟨by rfl, ?_⟩) hHeld ?_
      rotate_left
      · intro w hSw
        try dsimp only at hSw
        go_simp
        try (with_reducible rfl)
      simp only [Act.put, List.setIfInBounds_toArray, List.set_cons_zero, List.set_cons_succ]
      refine wpAnyH_take (i := 2) (oi := { dst := Option.some 86, op := Go.Op.load 27 (Go.Operand.tmp 8), type := 27, pos := "l11_verify.go:84", after := #[], guard := Option.none }) (v := ?_) rfl (by kernel_rfl) (by kernel_rfl) (by kernel_rfl) (fun _ _ _ h => h) (Or.inl ⟨by rfl, ?_⟩) hHeld ?_
      rotate_left
      · intro w hSw
        try dsimp only at hSw
        go_simp
        try (with_reducible rfl)
      simp only [Act.put, List.setIfInBounds_toArray, List.set_cons_zero, List.set_cons_succ]
      refine wpAnyH_take (i := 3) (oi := { dst := Option.some 87, op := Go.Op.move (Go.Operand.tmp 0), type := 67, pos := "l11_verify.go:84", after := #[], guard := Option.none }) (v := ?_) rfl (by kernel_rfl) (by kernel_rfl) (by kernel_rfl) (fun _ _ _ h => h) (Or.inl ⟨by rfl, ?_⟩) hHeld ?_
      rotate_left
      · intro w hSw
        try dsimp only at hSw
        go_simp
        try (with_reducible rfl)
      simp only [Act.put, List.setIfInBounds_toArray, List.set_cons_zero, List.set_cons_succ]
      refine wpAnyH_take (i := 5) (oi := { dst := Option.some 89, op := Go.Op.move (Go.Operand.tmp 9), type := 42, pos := "l11_verify.go:84", after := #[], guard := Option.none }) (v := ?_) rfl (by kernel_rfl) (by kernel_rfl) (by kernel_rfl) (fun _ _ _ h => h) (Or.inl ⟨by rfl, ?_⟩) hHeld ?_
      rotate_left
      · intro w hSw
        try dsimp only at hSw
        go_simp
        try (with_reducible rfl)
      simp only [Act.put, List.setIfInBounds_toArray, List.set_cons_zero, List.set_cons_succ]
      refine wpAnyH_ready (rs := [4]) (by kernel_rfl) (by decide) ?_
      refine AllReadyH.cons (o := { dst := Option.some 88, op := Go.Op.call { callee := Go.Callee.value (Go.Operand.func 34), args := #[Go.Operand.tmp 87, Go.Operand.const (Go.Value.int Go.IntKind.i64 3)], argTypes := #[67, 3] }, type := 3, pos := "l11_verify.go:84", after := #[{ on := 3, ground := Go.Ground.data }], guard := Option.none }) rfl (fun K hK => ?_) AllReadyH.nil
      go_simp
      go_at_call 34
      refine (below_d g B 3 _ Dd.out (by omega)).mono ?_
      rintro e v44 ⟨rd_44, rfl, ra_44, rb_44, HD_44, HG_44⟩
      have Gp_44 : Hid (wr.grownBy v44 (some g)) := grown_trans Gd.out HG_44.out
      clear HG_44
      refine hK.out _ _ (⟨(Hr.out.grown Gp_44.out (by simp; omega)).cell 0 rfl, (Hr.out.grown Gp_44.out (by simp; omega)).cell 1 rfl, (Hr.out.grown Gp_44.out (by simp; omega)).cell 2 rfl, (Hr.out.grown Gp_44.out (by simp; omega)).cell 3 rfl, (Hr.out.grown Gp_44.out (by simp; omega)).cell 4 rfl, (Hr.out.grown Gp_44.out (by simp; omega)).cell 5 rfl⟩) (fun hHeld => ?_)
      clear hK K
      try simp only [Act.put, List.setIfInBounds_toArray, List.set_cons_zero, List.set_cons_succ]
      refine wpAnyH_ready (rs := [6]) (by kernel_rfl) (by decide) ?_
      refine AllReadyH.cons (o := { dst := Option.some 90, op := Go.Op.call { callee := Go.Callee.value (Go.Operand.func 66), args := #[Go.Operand.tmp 86, Go.Operand.tmp 88, Go.Operand.tmp 89], argTypes := #[27, 3, 42] }, type := 33, pos := "l11_verify.go:84", after := #[{ on := 2, ground := Go.Ground.data }, { on := 4, ground := Go.Ground.data }, { on := 5, ground := Go.Ground.data }, { on := 4, ground := Go.Ground.chain }], guard := Option.none }) rfl (fun K hK => ?_) AllReadyH.nil
      go_simp
      go_at_call 66
      refine (kF rd_44 _ (own_nums (own_gr Ir.out Gp_44.out (by omega)))).mono ?_
      rintro e v45 ⟨sl, q9, rfl, hsl, HO9, HB9⟩
      obtain ⟨a9, c9, rfl⟩ := own_shape HO9.out
      have hsb : wr.heap.size ≤ v44.heap.size := Gp_44.out.size
      have D_45 : Hid (DS v45 g B) := HD_44.out.below (HB9.out.mono (by omega))
      have Gp_45 : Hid (wr.grownBy v45 (some g)) := gr_below Gp_44.out (HB9.out.mono hsb)
      refine hK.out _ _ (⟨(Hr.out.grown Gp_45.out (by simp; omega)).cell 0 rfl, (Hr.out.grown Gp_45.out (by simp; omega)).cell 1 rfl, (Hr.out.grown Gp_45.out (by simp; omega)).cell 2 rfl, (Hr.out.grown Gp_45.out (by simp; omega)).cell 3 rfl, (Hr.out.grown Gp_45.out (by simp; omega)).cell 4 rfl, (Hr.out.grown Gp_45.out (by simp; omega)).cell 5 rfl⟩) (fun hHeld => ?_)
      clear hK K
      try simp only [Act.put, List.setIfInBounds_toArray, List.set_cons_zero, List.set_cons_succ]
      refine wpAnyH_ready (rs := [7]) (by kernel_rfl) (by decide) ?_
      refine AllReadyH.cons (o := { dst := Option.none, op := Go.Op.store 27 (Go.Operand.tmp 4) (Go.Operand.tmp 84), type := 0, pos := "l11_verify.go:84", after := #[{ on := 0, ground := Go.Ground.data }, { on := 6, ground := Go.Ground.chain }, { on := 0, ground := Go.Ground.phase }, { on := 1, ground := Go.Ground.textOnly Go.Departure.lateStores }, { on := 2, ground := Go.Ground.textOnly Go.Departure.lateStores }, { on := 3, ground := Go.Ground.textOnly Go.Departure.lateStores }, { on := 4, ground := Go.Ground.textOnly Go.Departure.lateStoresUnsure }, { on := 5, ground := Go.Ground.textOnly Go.Departure.lateStores }, { on := 6, ground := Go.Ground.textOnly Go.Departure.lateStoresUnsure }], guard := Option.none }) rfl (fun K hK => ?_) AllReadyH.nil
      have NB := Nr.out.gr Gp_45.out hgw HPB.out
      have HB6 := Hr.out.grown Gp_45.out (by simp; omega)
      have hv1 : ∀ b o, va = some ⟨b, o, none⟩ → b ≠ w.heap.size + 1 := fun b o e => by have := Vr.out.2.2.2 b o e; omega
      have hv2 : ∀ b o, va = some ⟨b, o, none⟩ → b ≠ w.heap.size + 2 := fun b o e => by have := Vr.out.2.2.2 b o e; omega
      have P6f : Hid (Blk ((((((v45.setCell ⟨w.heap.size + 1, 0, none⟩ (.int .i64 xh)).setCell ⟨w.heap.size + 1, 1, none⟩ (.int .i64 xt)).setCell ⟨w.heap.size + 1, 2, none⟩ (.string xa)).setCell ⟨w.heap.size + 1, 3, none⟩ (.string xv)).setCell ⟨w.heap.size + 1, 4, none⟩ (.string xn)).setCell ⟨w.heap.size + 1, 5, none⟩ (.string xd)) (w.heap.size + 1) [.int .i64 xh, .int .i64 xt, .string xa, .string xv, .string xn, .string xd] 27) := ((((((NB.2.1.set 0 _).set 1 _).set 2 _).set 3 _).set 4 _).set 5 _)
      have P4f : Hid (Blk ((((((v45.setCell ⟨w.heap.size + 1, 0, none⟩ (.int .i64 xh)).setCell ⟨w.heap.size + 1, 1, none⟩ (.int .i64 xt)).setCell ⟨w.heap.size + 1, 2, none⟩ (.string xa)).setCell ⟨w.heap.size + 1, 3, none⟩ (.string xv)).setCell ⟨w.heap.size + 1, 4, none⟩ (.string xn)).setCell ⟨w.heap.size + 1, 5, none⟩ (.string xd)) (w.heap.size + 2) [.int .i64 0, .int .i64 0, .string ⟨#[]⟩, .slice none 0 0] 33) := ((((((NB.2.2.1.other 0 _ (by omega)).other 1 _ (by omega)).other 2 _ (by omega)).other 3 _ (by omega)).other 4 _ (by omega)).other 5 _ (by omega))
      have H6f : Hid (Blk ((((((v45.setCell ⟨w.heap.size + 1, 0, none⟩ (.int .i64 xh)).setCell ⟨w.heap.size + 1, 1, none⟩ (.int .i64 xt)).setCell ⟨w.heap.size + 1, 2, none⟩ (.string xa)).setCell ⟨w.heap.size + 1, 3, none⟩ (.string xv)).setCell ⟨w.heap.size + 1, 4, none⟩ (.string xn)).setCell ⟨w.heap.size + 1, 5, none⟩ (.string xd)) b6 [.int .i64 xh, .int .i64 xt, .string xa, .string xv, .string xn, .string xd] 27) := ((((((HB6.other 0 _ (by omega)).other 1 _ (by omega)).other 2 _ (by omega)).other 3 _ (by omega)).other 4 _ (by omega)).other 5 _ (by omega))
      have Gf : Hid (w.grownBy ((((((v45.setCell ⟨w.heap.size + 1, 0, none⟩ (.int .i64 xh)).setCell ⟨w.heap.size + 1, 1, none⟩ (.int .i64 xt)).setCell ⟨w.heap.size + 1, 2, none⟩ (.string xa)).setCell ⟨w.heap.size + 1, 3, none⟩ (.string xv)).setCell ⟨w.heap.size + 1, 4, none⟩ (.string xn)).setCell ⟨w.heap.size + 1, 5, none⟩ (.string xd)) (some g)) := (gr_setnew (gr_setnew (gr_setnew (gr_setnew (gr_setnew (gr_setnew (grown_trans Gr.out Gp_45.out) (Nat.le_succ _) _) (Nat.le_succ _) _) (Nat.le_succ _) _) (Nat.le_succ _) _) (Nat.le_succ _) _) (Nat.le_succ _) _)
      have Df : Hid (DS ((((((v45.setCell ⟨w.heap.size + 1, 0, none⟩ (.int .i64 xh)).setCell ⟨w.heap.size + 1, 1, none⟩ (.int .i64 xt)).setCell ⟨w.heap.size + 1, 2, none⟩ (.string xa)).setCell ⟨w.heap.size + 1, 3, none⟩ (.string xv)).setCell ⟨w.heap.size + 1, 4, none⟩ (.string xn)).setCell ⟨w.heap.size + 1, 5, none⟩ (.string xd)) g B) := D_45.out.below (((((((Below.refl B v45).setCell (p := ⟨w.heap.size + 1, 0, none⟩) (show B ≤ w.heap.size + 1 by omega) _).setCell (p := ⟨w.heap.size + 1, 1, none⟩) (show B ≤ w.heap.size + 1 by omega) _).setCell (p := ⟨w.heap.size + 1, 2, none⟩) (show B ≤ w.heap.size + 1 by omega) _).setCell (p := ⟨w.heap.size + 1, 3, none⟩) (show B ≤ w.heap.size + 1 by omega) _).setCell (p := ⟨w.heap.size + 1, 4, none⟩) (show B ≤ w.heap.size + 1 by omega) _).setCell (p := ⟨w.heap.size + 1, 5, none⟩) (show B ≤ w.heap.size + 1 by omega) _)
      have Vf : Hid (DrR ((((((v45.setCell ⟨w.heap.size + 1, 0, none⟩ (.int .i64 xh)).setCell ⟨w.heap.size + 1, 1, none⟩ (.int .i64 xt)).setCell ⟨w.heap.size + 1, 2, none⟩ (.string xa)).setCell ⟨w.heap.size + 1, 3, none⟩ (.string xv)).setCell ⟨w.heap.size + 1, 4, none⟩ (.string xn)).setCell ⟨w.heap.size + 1, 5, none⟩ (.string xd)) w0.heap.size va vc nz) := (((((((Vr.out.call Gp_45.out hglo).set 0 _ hv1).set 1 _ hv1).set 2 _ hv1).set 3 _ hv1).set 4 _ hv1).set 5 _ hv1)
      have Of : Hid (OwnS ((((((v45.setCell ⟨w.heap.size + 1, 0, none⟩ (.int .i64 xh)).setCell ⟨w.heap.size + 1, 1, none⟩ (.int .i64 xt)).setCell ⟨w.heap.size + 1, 2, none⟩ (.string xa)).setCell ⟨w.heap.size + 1, 3, none⟩ (.string xv)).setCell ⟨w.heap.size + 1, 4, none⟩ (.string xn)).setCell ⟨w.heap.size + 1, 5, none⟩ (.string xd)) v44.heap.size (.slice a9 sl.length c9) sl) := (ownsRow_setCell_below (ownsRow_setCell_below (ownsRow_setCell_below (ownsRow_setCell_below (ownsRow_setCell_below (ownsRow_setCell_below HO9.out (show w.heap.size + 1 < v44.heap.size by omega) _) (show w.heap.size + 1 < v44.heap.size by omega) _) (show w.heap.size + 1 < v44.heap.size by omega) _) (show w.heap.size + 1 < v44.heap.size by omega) _) (show w.heap.size + 1 < v44.heap.size by omega) _) (show w.heap.size + 1 < v44.heap.size by omega) _)
      have z0 := NB.2.1.cell 0 rfl
      have z1 := NB.2.1.cell 1 rfl
      have z2 := NB.2.1.cell 2 rfl
      have z3 := NB.2.1.cell 3 rfl
      have z4 := NB.2.1.cell 4 rfl
      have z5 := NB.2.1.cell 5 rfl
      have zf := fun q => NB.2.1.frozen q
      go_simp
      refine hK.out _ _ (⟨(H6f.out).cell 0 rfl, (H6f.out).cell 1 rfl, (H6f.out).cell 2 rfl, (H6f.out).cell 3 rfl, (H6f.out).cell 4 rfl, (H6f.out).cell 5 rfl⟩) (fun hHeld => ?_)
      clear hK K
      try simp only [Act.put, List.setIfInBounds_toArray, List.set_cons_zero, List.set_cons_succ]
      refine wpAnyH_take (i := 8) (oi := { dst := Option.some 5, op := Go.Op.assign (Go.Operand.tmp 85), type := 28, pos := "l11_verify.go:84", after := #[{ on := 1, ground := Go.Ground.data }, { on := 7, ground := Go.Ground.chain }, { on := 0, ground := Go.Ground.phase }, { on := 1, ground := Go.Ground.phase }, { on := 2, ground := Go.Ground.textOnly Go.Departure.lateStores }, { on := 3, ground := Go.Ground.textOnly Go.Departure.lateStores }, { on := 4, ground := Go.Ground.textOnly Go.Departure.lateStoresUnsure }, { on := 5, ground := Go.Ground.textOnly Go.Departure.lateStores }, { on := 6, ground := Go.Ground.textOnly Go.Departure.lateStoresUnsure }, { on := 7, ground := Go.Ground.phase }], guard := Option.none }) (v := ?_) rfl (by kernel_rfl) (by kernel_rfl) (by kernel_rfl) (fun _ _ _ h => h) (Or.inl ⟨by rfl, ?_⟩) hHeld ?_
      rotate_left
      · intro w hSw
        try dsimp only at hSw
        go_simp
        try (with_reducible rfl)
      simp only [Act.put, List.setIfInBounds_toArray, List.set_cons_zero, List.set_cons_succ]
      refine wpAnyH_ready (rs := [9]) (by kernel_rfl) (by decide) ?_
      refine AllReadyH.cons (o := { dst := Option.none, op := Go.Op.store 33 (Go.Operand.tmp 6) (Go.Operand.tmp 90), type := 0, pos := "l11_verify.go:84", after := #[{ on := 6, ground := Go.Ground.data }, { on := 8, ground := Go.Ground.chain }, { on := 0, ground := Go.Ground.phase }, { on := 1, ground := Go.Ground.phase }, { on := 2, ground := Go.Ground.phase }, { on := 3, ground := Go.Ground.phase }, { on := 4, ground := Go.Ground.phase }, { on := 5, ground := Go.Ground.phase }, { on := 6, ground := Go.Ground.phase }, { on := 7, ground := Go.Ground.phase }, { on := 8, ground := Go.Ground.phase }], guard := Option.none }) rfl (fun K hK => ?_) AllReadyH.nil
      clear z0 z1 z2 z3 z4 z5 zf NB HB6
      have P6g : Hid (Blk ((((((((((v45.setCell ⟨w.heap.size + 1, 0, none⟩ (.int .i64 xh)).setCell ⟨w.heap.size + 1, 1, none⟩ (.int .i64 xt)).setCell ⟨w.heap.size + 1, 2, none⟩ (.string xa)).setCell ⟨w.heap.size + 1, 3, none⟩ (.string xv)).setCell ⟨w.heap.size + 1, 4, none⟩ (.string xn)).setCell ⟨w.heap.size + 1, 5, none⟩ (.string xd)).setCell ⟨w.heap.size + 2, 0, none⟩ (.int .i64 xh)).setCell ⟨w.heap.size + 2, 1, none⟩ (.int .i64 rd_44)).setCell ⟨w.heap.size + 2, 2, none⟩ (.string J)).setCell ⟨w.heap.size + 2, 3, none⟩ (.slice a9 sl.length c9)) (w.heap.size + 1) [.int .i64 xh, .int .i64 xt, .string xa, .string xv, .string xn, .string xd] 27) := ((((P6f.out.other 0 _ (by omega)).other 1 _ (by omega)).other 2 _ (by omega)).other 3 _ (by omega))
      have P4g : Hid (Blk ((((((((((v45.setCell ⟨w.heap.size + 1, 0, none⟩ (.int .i64 xh)).setCell ⟨w.heap.size + 1, 1, none⟩ (.int .i64 xt)).setCell ⟨w.heap.size + 1, 2, none⟩ (.string xa)).setCell ⟨w.heap.size + 1, 3, none⟩ (.string xv)).setCell ⟨w.heap.size + 1, 4, none⟩ (.string xn)).setCell ⟨w.heap.size + 1, 5, none⟩ (.string xd)).setCell ⟨w.heap.size + 2, 0, none⟩ (.int .i64 xh)).setCell ⟨w.heap.size + 2, 1, none⟩ (.int .i64 rd_44)).setCell ⟨w.heap.size + 2, 2, none⟩ (.string J)).setCell ⟨w.heap.size + 2, 3, none⟩ (.slice a9 sl.length c9)) (w.heap.size + 2) [.int .i64 xh, .int .i64 rd_44, .string J, .slice a9 sl.length c9] 33) := ((((P4f.out.set 0 _).set 1 _).set 2 _).set 3 _)
      have H6g : Hid (Blk ((((((((((v45.setCell ⟨w.heap.size + 1, 0, none⟩ (.int .i64 xh)).setCell ⟨w.heap.size + 1, 1, none⟩ (.int .i64 xt)).setCell ⟨w.heap.size + 1, 2, none⟩ (.string xa)).setCell ⟨w.heap.size + 1, 3, none⟩ (.string xv)).setCell ⟨w.heap.size + 1, 4, none⟩ (.string xn)).setCell ⟨w.heap.size + 1, 5, none⟩ (.string xd)).setCell ⟨w.heap.size + 2, 0, none⟩ (.int .i64 xh)).setCell ⟨w.heap.size + 2, 1, none⟩ (.int .i64 rd_44)).setCell ⟨w.heap.size + 2, 2, none⟩ (.string J)).setCell ⟨w.heap.size + 2, 3, none⟩ (.slice a9 sl.length c9)) b6 [.int .i64 xh, .int .i64 xt, .string xa, .string xv, .string xn, .string xd] 27) := ((((H6f.out.other 0 _ (by omega)).other 1 _ (by omega)).other 2 _ (by omega)).other 3 _ (by omega))
      have Gg : Hid (w.grownBy ((((((((((v45.setCell ⟨w.heap.size + 1, 0, none⟩ (.int .i64 xh)).setCell ⟨w.heap.size + 1, 1, none⟩ (.int .i64 xt)).setCell ⟨w.heap.size + 1, 2, none⟩ (.string xa)).setCell ⟨w.heap.size + 1, 3, none⟩ (.string xv)).setCell ⟨w.heap.size + 1, 4, none⟩ (.string xn)).setCell ⟨w.heap.size + 1, 5, none⟩ (.string xd)).setCell ⟨w.heap.size + 2, 0, none⟩ (.int .i64 xh)).setCell ⟨w.heap.size + 2, 1, none⟩ (.int .i64 rd_44)).setCell ⟨w.heap.size + 2, 2, none⟩ (.string J)).setCell ⟨w.heap.size + 2, 3, none⟩ (.slice a9 sl.length c9)) (some g)) := (gr_setnew (gr_setnew (gr_setnew (gr_setnew Gf.out (by omega) _) (by omega) _) (by omega) _) (by omega) _)
      have Dg : Hid (DS ((((((((((v45.setCell ⟨w.heap.size + 1, 0, none⟩ (.int .i64 xh)).setCell ⟨w.heap.size + 1, 1, none⟩ (.int .i64 xt)).setCell ⟨w.heap.size + 1, 2, none⟩ (.string xa)).setCell ⟨w.heap.size + 1, 3, none⟩ (.string xv)).setCell ⟨w.heap.size + 1, 4, none⟩ (.string xn)).setCell ⟨w.heap.size + 1, 5, none⟩ (.string xd)).setCell ⟨w.heap.size + 2, 0, none⟩ (.int .i64 xh)).setCell ⟨w.heap.size + 2, 1, none⟩ (.int .i64 rd_44)).setCell ⟨w.heap.size + 2, 2, none⟩ (.string J)).setCell ⟨w.heap.size + 2, 3, none⟩ (.slice a9 sl.length c9)) g B) := Df.out.below (((((Below.refl B ((((((v45.setCell ⟨w.heap.size + 1, 0, none⟩ (.int .i64 xh)).setCell ⟨w.heap.size + 1, 1, none⟩ (.int .i64 xt)).setCell ⟨w.heap.size + 1, 2, none⟩ (.string xa)).setCell ⟨w.heap.size + 1, 3, none⟩ (.string xv)).setCell ⟨w.heap.size + 1, 4, none⟩ (.string xn)).setCell ⟨w.heap.size + 1, 5, none⟩ (.string xd))).setCell (p := ⟨w.heap.size + 2, 0, none⟩) (show B ≤ w.heap.size + 2 by omega) _).setCell (p := ⟨w.heap.size + 2, 1, none⟩) (show B ≤ w.heap.size + 2 by omega) _).setCell (p := ⟨w.heap.size + 2, 2, none⟩) (show B ≤ w.heap.size + 2 by omega) _).setCell (p := ⟨w.heap.size + 2, 3, none⟩) (show B ≤ w.heap.size + 2 by omega) _)
      have Vg : Hid (DrR ((((((((((v45.setCell ⟨w.heap.size + 1, 0, none⟩ (.int .i64 xh)).setCell ⟨w.heap.size + 1, 1, none⟩ (.int .i64 xt)).setCell ⟨w.heap.size + 1, 2, none⟩ (.string xa)).setCell ⟨w.heap.size + 1, 3, none⟩ (.string xv)).setCell ⟨w.heap.size + 1, 4, none⟩ (.string xn)).setCell ⟨w.heap.size + 1, 5, none⟩ (.string xd)).setCell ⟨w.heap.size + 2, 0, none⟩ (.int .i64 xh)).setCell ⟨w.heap.size + 2, 1, none⟩ (.int .i64 rd_44)).setCell ⟨w.heap.size + 2, 2, none⟩ (.string J)).setCell ⟨w.heap.size + 2, 3, none⟩ (.slice a9 sl.length c9)) w0.heap.size va vc nz) := ((((Vf.out.set 0 _ hv2).set 1 _ hv2).set 2 _ hv2).set 3 _ hv2)
      have Og : Hid (OwnS ((((((((((v45.setCell ⟨w.heap.size + 1, 0, none⟩ (.int .i64 xh)).setCell ⟨w.heap.size + 1, 1, none⟩ (.int .i64 xt)).setCell ⟨w.heap.size + 1, 2, none⟩ (.string xa)).setCell ⟨w.heap.size + 1, 3, none⟩ (.string xv)).setCell ⟨w.heap.size + 1, 4, none⟩ (.string xn)).setCell ⟨w.heap.size + 1, 5, none⟩ (.string xd)).setCell ⟨w.heap.size + 2, 0, none⟩ (.int .i64 xh)).setCell ⟨w.heap.size + 2, 1, none⟩ (.int .i64 rd_44)).setCell ⟨w.heap.size + 2, 2, none⟩ (.string J)).setCell ⟨w.heap.size + 2, 3, none⟩ (.slice a9 sl.length c9)) v44.heap.size (.slice a9 sl.length c9) sl) := (ownsRow_setCell_below (ownsRow_setCell_below (ownsRow_setCell_below (ownsRow_setCell_below Of.out (show w.heap.size + 2 < v44.heap.size by omega) _) (show w.heap.size + 2 < v44.heap.size by omega) _) (show w.heap.size + 2 < v44.heap.size by omega) _) (show w.heap.size + 2 < v44.heap.size by omega) _)
      have z0 := P4f.out.cell 0 rfl
      have z1 := P4f.out.cell 1 rfl
      have z2 := P4f.out.cell 2 rfl
      have z3 := P4f.out.cell 3 rfl
      have zf := fun q => P4f.out.frozen q
      go_simp
      refine hK.out _ _ (⟨(H6g.out).cell 0 rfl, (H6g.out).cell 1 rfl, (H6g.out).cell 2 rfl, (H6g.out).cell 3 rfl, (H6g.out).cell 4 rfl, (H6g.out).cell 5 rfl⟩) (fun hHeld => ?_)
      clear hK K
      try simp only [Act.put, List.setIfInBounds_toArray, List.set_cons_zero, List.set_cons_succ]
      refine wpAnyH_done (by kernel_rfl) ?_ _
      have r0 := P6g.out.cell 0 rfl
      have r1 := P6g.out.cell 1 rfl
      have r2 := P6g.out.cell 2 rfl
      have r3 := P6g.out.cell 3 rfl
      have r4 := P6g.out.cell 4 rfl
      have r5 := P6g.out.cell 5 rfl
      have s0 := P4g.out.cell 0 rfl
      have s1 := P4g.out.cell 1 rfl
      have s2 := P4g.out.cell 2 rfl
      have s3 := P4g.out.cell 3 rfl
      have hso := OwnS.sl Og.out
      have hlt9 := OwnS.lt9 Og.out
      have HSO : Hid (SO ((((((((((v45.setCell ⟨w.heap.size + 1, 0, none⟩ (.int .i64 xh)).setCell ⟨w.heap.size + 1, 1, none⟩ (.int .i64 xt)).setCell ⟨w.heap.size + 1, 2, none⟩ (.string xa)).setCell ⟨w.heap.size + 1, 3, none⟩ (.string xv)).setCell ⟨w.heap.size + 1, 4, none⟩ (.string xn)).setCell ⟨w.heap.size + 1, 5, none⟩ (.string xd)).setCell ⟨w.heap.size + 2, 0, none⟩ (.int .i64 xh)).setCell ⟨w.heap.size + 2, 1, none⟩ (.int .i64 rd_44)).setCell ⟨w.heap.size + 2, 2, none⟩ (.string J)).setCell ⟨w.heap.size + 2, 3, none⟩ (.slice a9 sl.length c9)) a9 sl ∧ sl.length ≤ 8 ∧ J.size ≤ 8 ∧ (∀ z ∈ sl, z.s.size ≤ 8) ∧ ∀ b o, a9 = some ⟨b, o, none⟩ → w.heap.size ≤ b ∧ b < (((((((((((v45.setCell ⟨w.heap.size + 1, 0, none⟩ (.int .i64 xh)).setCell ⟨w.heap.size + 1, 1, none⟩ (.int .i64 xt)).setCell ⟨w.heap.size + 1, 2, none⟩ (.string xa)).setCell ⟨w.heap.size + 1, 3, none⟩ (.string xv)).setCell ⟨w.heap.size + 1, 4, none⟩ (.string xn)).setCell ⟨w.heap.size + 1, 5, none⟩ (.string xd)).setCell ⟨w.heap.size + 2, 0, none⟩ (.int .i64 xh)).setCell ⟨w.heap.size + 2, 1, none⟩ (.int .i64 rd_44)).setCell ⟨w.heap.size + 2, 2, none⟩ (.string J)).setCell ⟨w.heap.size + 2, 3, none⟩ (.slice a9 sl.length c9))).heap.size) := ⟨hso.1, by have := hsl.out.1; omega, hI8, hsl.out.2, fun b o e => ⟨by have := hso.2 b o e; omega, hlt9 b o e⟩⟩
      have HVg := Vg.out.lo (show w.heap.size ≤ w0.heap.size by omega)
      clear Vg Og hso hlt9 z0 z1 z2 z3 zf P6f P4f H6f Gf Df Vf Of H6g
      generalize ((((((((((v45.setCell ⟨w.heap.size + 1, 0, none⟩ (.int .i64 xh)).setCell ⟨w.heap.size + 1, 1, none⟩ (.int .i64 xt)).setCell ⟨w.heap.size + 1, 2, none⟩ (.string xa)).setCell ⟨w.heap.size + 1, 3, none⟩ (.string xv)).setCell ⟨w.heap.size + 1, 4, none⟩ (.string xn)).setCell ⟨w.heap.size + 1, 5, none⟩ (.string xd)).setCell ⟨w.heap.size + 2, 0, none⟩ (.int .i64 xh)).setCell ⟨w.heap.size + 2, 1, none⟩ (.int .i64 rd_44)).setCell ⟨w.heap.size + 2, 2, none⟩ (.string J)).setCell ⟨w.heap.size + 2, 3, none⟩ (.slice a9 sl.length c9)) = wf at *
      go_wp2
      refine bodyPost_ret (v := .tuple #[.agg #[.int .i64 xh, .int .i64 xt, .string xa, .string xv, .string xn, .string xd], .slice va nz.length vc, .agg #[.int .i64 xh, .int .i64 rd_44, .string J, .slice a9 sl.length c9]]) ?_ rfl ⟨⟨xh, xt, xa, xv, xn, xd⟩, nz, va, vc, ⟨xh, rd_44, J, sl⟩, a9, ⟨c9, rfl⟩, HXx, HVg, HSO, Dg, Gg⟩
      simp [results, Tryz.results33, go_sem, r0, r1, r2, r3, r4, r5, s0, s1, s2, s3]
end Go.Proofs.YtajfmjgaaapjeaaGreatDoor
namespace Go.Proofs.YtajfmjgaaapjeaaGreatDoor
open Go.RowKit
open Num
set_option linter.unusedVariables false
theorem code_below {w w' : World} {a : Option Addr} {L : List UInt8} (hl : CodeAt w w.heap.size a L) (hb : Below w.heap.size w w') : CodeAt w' w'.heap.size a L := by
  intro j hj
  obtain ⟨b, off, e, hne, hc⟩ := hl j hj
  have h1 : b < w.heap.size := World.block_lt_of_cell? w _ hc
  have h2 := hb.size
  refine ⟨b, off, e, by omega, ?_⟩
  rw [hb.cell (p := ⟨b, off + j, none⟩) h1]; exact hc
theorem SO.gr {w w' : World} {g : Nat} {a : Option Addr} {l : List Sg} (h : SO w a l) (hg : w.grownBy w' (some g)) (ha : ∀ b o, a = some ⟨b, o, none⟩ → b ≠ g) : SO w' a l := by
  rcases h with h | ⟨b, o, rfl, h2⟩
  · exact .inl h
  · refine .inr ⟨b, o, rfl, fun j hj => ?_⟩
    obtain ⟨k1, k2⟩ := h2 j hj
    have hlt := World.block_lt_of_cell? w _ k1
    have hbl := hg.block b hlt (fun e => by injection e with e; exact ha b o rfl e)
    have hc : ∀ q, w'.cell? ⟨b, q, none⟩ = w.cell? ⟨b, q, none⟩ := fun q => World.cell?_of_block hbl
    exact ⟨(hc _).trans k1, (hc _).trans k2⟩
/-- A drawn commit's row. -/
def DrS (w : World) (lo : Nat) (u : Option Addr) (c : Ct) : Prop := SO w u c.l ∧ c.l.length ≤ 8 ∧ c.i.size ≤ 8 ∧ (∀ z ∈ c.l, z.s.size ≤ 8) ∧ ∀ b o, u = some ⟨b, o, none⟩ → lo ≤ b ∧ b < w.heap.size
theorem DrS.call {w w' : World} {lo g : Nat} {u : Option Addr} {c : Ct} (h : DrS w lo u c) (hg : w.grownBy w' (some g)) (hlo : g < lo) : DrS w' lo u c :=
  ⟨h.1.gr hg (fun b o e => by have := h.2.2.2.2 b o e; omega), h.2.1, h.2.2.1, h.2.2.2.1, fun b o e => by have := h.2.2.2.2 b o e; have := hg.size; omega⟩
theorem DrS.below {w w' : World} {lo : Nat} {u : Option Addr} {c : Ct} (h : DrS w lo u c) (hb : Below w.heap.size w w') : DrS w' lo u c :=
  ⟨SO.below h.1 hb, h.2.1, h.2.2.1, h.2.2.2.1, fun b o e => by have := h.2.2.2.2 b o e; have := hb.size; omega⟩
theorem DrS.set {w : World} {lo g : Nat} {u : Option Addr} {c : Ct} (h : DrS w lo u c) (j : Nat) (x : Value) (hne : ∀ b o, u = some ⟨b, o, none⟩ → b ≠ g) : DrS (w.setCell ⟨g, j, none⟩ x) lo u c :=
  ⟨h.1.gr (gr_set w g j x) hne, h.2.1, h.2.2.1, h.2.2.2.1, fun b o e => by have := h.2.2.2.2 b o e; simpa [World.setCell] using this⟩
/-- The results as they were laid; old memory stands. -/
def Rz (w W : World) : Prop := Blk W w.heap.size [.int .i64 0, .int .i64 0] 25 ∧ Blk W (w.heap.size + 1) [.int .i64 0, .int .i64 0, .string ⟨#[]⟩, .string ⟨#[]⟩, .string ⟨#[]⟩, .string ⟨#[]⟩, .slice none 0 0] 30 ∧ Blk W (w.heap.size + 2) [.int .i64 0, .int .i64 0, .string ⟨#[]⟩, .string ⟨#[]⟩, .string ⟨#[]⟩, .string ⟨#[]⟩] 27 ∧ Blk W (w.heap.size + 3) [.int .i64 0, .int .i64 0, .string ⟨#[]⟩, .slice none 0 0] 33 ∧ Below w.heap.size w W
theorem Rz.gr {w W W' : World} {g : Nat} (h : Rz w W) (hg : W.grownBy W' (some g)) (hgw : w.heap.size + 3 < g) : Rz w W' :=
  ⟨h.1.grown hg (by simp; omega), h.2.1.grown hg (by simp; omega), h.2.2.1.grown hg (by simp; omega), h.2.2.2.1.grown hg (by simp; omega), h.2.2.2.2.grown hg h.2.2.2.2.size (fun j e => by injection e with e; omega)⟩
theorem Rz.below {w W W' : World} (h : Rz w W) (hb : Below W.heap.size W W') : Rz w W' :=
  ⟨h.1.below hb h.1.lt, h.2.1.below hb h.2.1.lt, h.2.2.1.below hb h.2.2.1.lt, h.2.2.2.1.below hb h.2.2.2.1.lt, h.2.2.2.2.trans (hb.mono h.2.2.2.2.size)⟩
theorem rz_new (w : World) : Rz w ((((w.alloc (.cells [.int .i64 0, .int .i64 0].toArray 25)).alloc (.cells [.int .i64 0, .int .i64 0, .string ⟨#[]⟩, .string ⟨#[]⟩, .string ⟨#[]⟩, .string ⟨#[]⟩, .slice none 0 0].toArray 30)).alloc (.cells [.int .i64 0, .int .i64 0, .string ⟨#[]⟩, .string ⟨#[]⟩, .string ⟨#[]⟩, .string ⟨#[]⟩].toArray 27)).alloc (.cells [.int .i64 0, .int .i64 0, .string ⟨#[]⟩, .slice none 0 0].toArray 33)) := by
  have e1 : (w.alloc (.cells [.int .i64 0, .int .i64 0].toArray 25)).heap.size = w.heap.size + 1 := by simp
  have e2 : ((w.alloc (.cells [.int .i64 0, .int .i64 0].toArray 25)).alloc (.cells [.int .i64 0, .int .i64 0, .string ⟨#[]⟩, .string ⟨#[]⟩, .string ⟨#[]⟩, .string ⟨#[]⟩, .slice none 0 0].toArray 30)).heap.size = w.heap.size + 2 := by simp
  have e3 : (((w.alloc (.cells [.int .i64 0, .int .i64 0].toArray 25)).alloc (.cells [.int .i64 0, .int .i64 0, .string ⟨#[]⟩, .string ⟨#[]⟩, .string ⟨#[]⟩, .string ⟨#[]⟩, .slice none 0 0].toArray 30)).alloc (.cells [.int .i64 0, .int .i64 0, .string ⟨#[]⟩, .string ⟨#[]⟩, .string ⟨#[]⟩, .string ⟨#[]⟩].toArray 27)).heap.size = w.heap.size + 3 := by simp
  refine ⟨?_, ?_, ?_, ?_, ?_⟩
  · exact (((blk_new w _ _).alloc _).alloc _).alloc _
  · have h := ((blk_new (w.alloc (.cells [.int .i64 0, .int .i64 0].toArray 25)) [.int .i64 0, .int .i64 0, .string ⟨#[]⟩, .string ⟨#[]⟩, .string ⟨#[]⟩, .string ⟨#[]⟩, .slice none 0 0] 30).alloc (.cells [.int .i64 0, .int .i64 0, .string ⟨#[]⟩, .string ⟨#[]⟩, .string ⟨#[]⟩, .string ⟨#[]⟩].toArray 27)).alloc (.cells [.int .i64 0, .int .i64 0, .string ⟨#[]⟩, .slice none 0 0].toArray 33)
    rw [e1] at h; exact h
  · have h := (blk_new ((w.alloc (.cells [.int .i64 0, .int .i64 0].toArray 25)).alloc (.cells [.int .i64 0, .int .i64 0, .string ⟨#[]⟩, .string ⟨#[]⟩, .string ⟨#[]⟩, .string ⟨#[]⟩, .slice none 0 0].toArray 30)) [.int .i64 0, .int .i64 0, .string ⟨#[]⟩, .string ⟨#[]⟩, .string ⟨#[]⟩, .string ⟨#[]⟩] 27).alloc (.cells [.int .i64 0, .int .i64 0, .string ⟨#[]⟩, .slice none 0 0].toArray 33)
    rw [e2] at h; exact h
  · have h := blk_new (((w.alloc (.cells [.int .i64 0, .int .i64 0].toArray 25)).alloc (.cells [.int .i64 0, .int .i64 0, .string ⟨#[]⟩, .string ⟨#[]⟩, .string ⟨#[]⟩, .string ⟨#[]⟩, .slice none 0 0].toArray 30)).alloc (.cells [.int .i64 0, .int .i64 0, .string ⟨#[]⟩, .string ⟨#[]⟩, .string ⟨#[]⟩, .string ⟨#[]⟩].toArray 27)) [.int .i64 0, .int .i64 0, .string ⟨#[]⟩, .slice none 0 0] 33
    rw [e3] at h; exact h
  · exact (((below_one _ _).alloc (by simp) _).alloc (by simp; omega) _).alloc (by simp; omega) _
set_option maxHeartbeats 12800000 in
set_option maxRecDepth 100000 in
theorem draw_verify (a : Option Addr) (L : List UInt8) (cap : Nat) (w : World) (hl : CodeAt w w.heap.size a L) (hlen : L.length ≤ 1048576) :
    Calls Tryz.prog 6 #[.slice a L.length cap] w fun e w' => ∃ (t : Tr) (y : H) (l : List V) (u : Option Addr) (cu : Nat) (x : H) (nx : List V) (un : Option Addr) (cn : Nat) (c : Ct) (uc : Option Addr) (cc : Nat) (z : Int), e = .returned (.tuple #[trV t, aV y (.slice u l.length cu), hV x, .slice un nx.length cn, cV c uc cc, .int .i64 z]) ∧ Hid (DrX y) ∧ Hid (DrY x) ∧ Hid (DrR w' w.heap.size u cu l) ∧ Hid (DrR w' w.heap.size un cn nx) ∧ Hid (DrS w' w.heap.size uc c) ∧ Below w.heap.size w w' := by
  obtain ⟨w0, hw0⟩ : ∃ W, (((w.alloc (.cells [.int .i64 0, .int .i64 0].toArray 25)).alloc (.cells [.int .i64 0, .int .i64 0, .string ⟨#[]⟩, .string ⟨#[]⟩, .string ⟨#[]⟩, .string ⟨#[]⟩, .slice none 0 0].toArray 30)).alloc (.cells [.int .i64 0, .int .i64 0, .string ⟨#[]⟩, .string ⟨#[]⟩, .string ⟨#[]⟩, .string ⟨#[]⟩].toArray 27)).alloc (.cells [.int .i64 0, .int .i64 0, .string ⟨#[]⟩, .slice none 0 0].toArray 33) = W := ⟨_, rfl⟩
  have Z0 : Hid (Rz w w0) := by rw [← hw0]; exact rz_new w
  have hs0 : w.heap.size + 3 < w0.heap.size := Z0.out.2.2.2.1.lt
  have HC0 : Hid (CodeAt w0 w0.heap.size a L) := code_below hl Z0.out.2.2.2.2
  clear hl
  unfold trV aV hV cV
  go_enter Tryz.func6, Tryz.ntmps6
  go_wp2_with fail
  try rw [hw0]
  clear hw0
  refine (cur_d a L cap w0 HC0.out hlen).mono ?_
  rintro e w1 ⟨rfl, D1, HB, hs1⟩
  have Z1 : Hid (Rz w w1) := Z0.out.below HB.out
  obtain ⟨g, hg⟩ : ∃ g, w0.heap.size = g := ⟨_, rfl⟩
  rw [hg] at D1 hs1 hs0
  clear Z0 HC0 HB
  go_wp2_with fail
  try rw [hg]
  clear hg
  have kt := trust_d g (g + 1) w1 D1.out hs1
  unfold trV at kt
  refine kt.mono ?_
  rintro e w2 ⟨⟨tp, ts⟩, rfl, HD, HG⟩
  clear kt
  try simp only
  have D_1 := HD
  have Z_1 : Hid (Rz w w2) := Z1.out.gr HG.out hs0
  have hz_1 : g + 1 ≤ w2.heap.size := by have := HG.out.size; omega
  clear D1 HD Z1 HG
  obtain ⟨w3, hw3⟩ : ∃ W, w2.alloc (Obj.cells #[.int .i64 tp, .int .i64 ts] 25) = W := ⟨_, rfl⟩
  obtain ⟨bT, hbT⟩ : ∃ b, w2.heap.size = b := ⟨_, rfl⟩
  have bb : Below w2.heap.size w2 w3 := by rw [← hw3]; exact below_one _ _
  have KT : Hid (Blk w3 bT [.int .i64 tp, .int .i64 ts] 25) := by rw [← hw3, ← hbT]; exact blk_new w2 [.int .i64 tp, .int .i64 ts] _
  have hgT : g < bT := by omega
  have D_2 : Hid (DS w3 g (g + 1)) := D_1.out.below (bb.mono (by omega))
  have Z_2 : Hid (Rz w w3) := Z_1.out.below bb
  have hz_2 : g + 1 ≤ w3.heap.size := by have := bb.size; omega
  clear D_1 Z_1
  clear bb
  have ka := anchor_d g (g + 1) w3 D_2.out (by have := KT.out.lt; omega)
  unfold aV at ka
  go_wp2_with fail
  try rw [hw3]
  try rw [hbT]
  refine ka.mono ?_
  rintro e w4 ⟨⟨yh, yt, ya, yv, yn, yd⟩, l, u, cu, rfl, HY, HV, HD, HG⟩
  clear hw3 hbT ka
  try simp only at HY
  have RV : Hid (DrR w4 (g + 1) u cu l) := HV.out.lo (by have := KT.out.lt; omega)
  clear HV
  have D_3 := HD
  have Z_3 : Hid (Rz w w4) := Z_2.out.gr HG.out hs0
  have KT_3 : Hid (Blk w4 bT [.int .i64 tp, .int .i64 ts] 25) := KT.out.grown HG.out (by simp; omega)
  have hz_3 : g + 1 ≤ w4.heap.size := by have := HG.out.size; omega
  clear D_2 HD Z_2 KT HG
  obtain ⟨w5, hw5⟩ : ∃ W, w4.alloc (Obj.cells #[.int .i64 yh, .int .i64 yt, .string ya, .string yv, .string yn, .string yd, .slice u l.length cu] 30) = W := ⟨_, rfl⟩
  obtain ⟨bA, hbA⟩ : ∃ b, w4.heap.size = b := ⟨_, rfl⟩
  have bb : Below w4.heap.size w4 w5 := by rw [← hw5]; exact below_one _ _
  have KA : Hid (Blk w5 bA [.int .i64 yh, .int .i64 yt, .string ya, .string yv, .string yn, .string yd, .slice u l.length cu] 30) := by rw [← hw5, ← hbA]; exact blk_new w4 [.int .i64 yh, .int .i64 yt, .string ya, .string yv, .string yn, .string yd, .slice u l.length cu] _
  have hgA : g < bA := by omega
  have hTA : bT < bA := by have := KT_3.out.lt; omega
  have hVA : Hid (∀ b o, u = some ⟨b, o, none⟩ → b < bA) := fun b o e => by have := RV.out.2.2.2 b o e; omega
  have D_4 : Hid (DS w5 g (g + 1)) := D_3.out.below (bb.mono (by omega))
  have Z_4 : Hid (Rz w w5) := Z_3.out.below bb
  have KT_4 : Hid (Blk w5 bT [.int .i64 tp, .int .i64 ts] 25) := KT_3.out.below bb KT_3.out.lt
  have V_4 : Hid (DrR w5 (g + 1) u cu l) := RV.out.below bb
  have hz_4 : g + 1 ≤ w5.heap.size := by have := bb.size; omega
  clear D_3 Z_3 KT_3 RV
  clear bb
  have ya0 := KA.out.cell 0 rfl
  have ya1 := KA.out.cell 1 rfl
  have ya2 := KA.out.cell 2 rfl
  have ya3 := KA.out.cell 3 rfl
  have ya4 := KA.out.cell 4 rfl
  have ya5 := KA.out.cell 5 rfl
  have ya6 := KA.out.cell 6 rfl
  have kn := next_d g (g + 1) w5 ⟨yh, yt, ya, yv, yn, yd⟩ l u cu D_4.out (by have := KA.out.lt; omega) HY.out V_4.out.1 V_4.out.2.1 (fun b o e => by have := V_4.out.2.2.2 b o e; omega)
  unfold aV hV cV at kn
  try simp only at kn
  go_wp2_with fail
  try rw [hw5]
  try rw [hbA]
  refine kn.mono ?_
  rintro e w6 ⟨⟨xh, xt, xa, xv, xn, xd⟩, nx, un, cn, ⟨ch, cr, ci, cl⟩, uc, cc, rfl, HX, HV, HSO, HD, HG⟩
  clear hw5 hbA kn ya0 ya1 ya2 ya3 ya4 ya5 ya6
  try simp only at HX
  have RN : Hid (DrR w6 (g + 1) un cn nx) := HV.out.lo (by have := KA.out.lt; omega)
  have RS : Hid (DrS w6 (g + 1) uc ⟨ch, cr, ci, cl⟩) := ⟨HSO.out.1, HSO.out.2.1, HSO.out.2.2.1, HSO.out.2.2.2.1, fun b o e => by have := HSO.out.2.2.2.2 b o e; have := KA.out.lt; omega⟩
  have hN_A : Hid (∀ b o, un = some ⟨b, o, none⟩ → b ≠ bA) := fun b o e => by have := HV.out.2.2.2 b o e; have := KA.out.lt; omega
  have hS_A : Hid (∀ b o, uc = some ⟨b, o, none⟩ → b ≠ bA) := fun b o e => by have := HSO.out.2.2.2.2 b o e; have := KA.out.lt; omega
  clear HV HSO
  have D_5 := HD
  have Z_5 : Hid (Rz w w6) := Z_4.out.gr HG.out hs0
  have KT_5 : Hid (Blk w6 bT [.int .i64 tp, .int .i64 ts] 25) := KT_4.out.grown HG.out (by simp; omega)
  have V_5 : Hid (DrR w6 (g + 1) u cu l) := V_4.out.call HG.out (Nat.lt_succ_self g)
  have KA_5 : Hid (Blk w6 bA [.int .i64 yh, .int .i64 yt, .string ya, .string yv, .string yn, .string yd, .slice u l.length cu] 30) := KA.out.grown HG.out (by simp; omega)
  have hz_5 : g + 1 ≤ w6.heap.size := by have := HG.out.size; omega
  clear D_4 HD Z_4 KT_4 V_4 KA HG
  obtain ⟨w7, hw7⟩ : ∃ W, (w6.alloc (Obj.cells #[.int .i64 xh, .int .i64 xt, .string xa, .string xv, .string xn, .string xd] 27)).alloc (Obj.cells #[.int .i64 ch, .int .i64 cr, .string ci, .slice uc cl.length cc] 33) = W := ⟨_, rfl⟩
  obtain ⟨bX, hbX⟩ : ∃ b, w6.heap.size = b := ⟨_, rfl⟩
  have bb : Below w6.heap.size w6 w7 := by rw [← hw7]; exact below_two _ _ _
  have KX : Hid (Blk w7 bX [.int .i64 xh, .int .i64 xt, .string xa, .string xv, .string xn, .string xd] 27) := by rw [← hw7, ← hbX]; exact (blk_new w6 [.int .i64 xh, .int .i64 xt, .string xa, .string xv, .string xn, .string xd] _).alloc _
  have KC : Hid (Blk w7 (bX + 1) [.int .i64 ch, .int .i64 cr, .string ci, .slice uc cl.length cc] 33) := by
    rw [← hw7, ← hbX]
    have h := blk_new (w6.alloc (Obj.cells #[.int .i64 xh, .int .i64 xt, .string xa, .string xv, .string xn, .string xd] 27)) [.int .i64 ch, .int .i64 cr, .string ci, .slice uc cl.length cc] 33
    rw [show (w6.alloc (Obj.cells #[.int .i64 xh, .int .i64 xt, .string xa, .string xv, .string xn, .string xd] 27)).heap.size = w6.heap.size + 1 by simp] at h; exact h
  have hAX : bA < bX := by have := KA_5.out.lt; omega
  have hgX : g < bX := by omega
  have hgC : g < bX + 1 := by omega
  have hVX : Hid (∀ b o, u = some ⟨b, o, none⟩ → b < bX) := fun b o e => by have := hVA.out b o e; omega
  have D_6 : Hid (DS w7 g (g + 1)) := D_5.out.below (bb.mono (by omega))
  have Z_6 : Hid (Rz w w7) := Z_5.out.below bb
  have KT_6 : Hid (Blk w7 bT [.int .i64 tp, .int .i64 ts] 25) := KT_5.out.below bb KT_5.out.lt
  have V_6 : Hid (DrR w7 (g + 1) u cu l) := V_5.out.below bb
  have KA_6 : Hid (Blk w7 bA [.int .i64 yh, .int .i64 yt, .string ya, .string yv, .string yn, .string yd, .slice u l.length cu] 30) := KA_5.out.below bb KA_5.out.lt
  have N_6 : Hid (DrR w7 (g + 1) un cn nx) := RN.out.below bb
  have S_6 : Hid (DrS w7 (g + 1) uc ⟨ch, cr, ci, cl⟩) := RS.out.below bb
  have hz_6 : g + 1 ≤ w7.heap.size := by have := bb.size; omega
  clear D_5 Z_5 KT_5 V_5 KA_5 RN RS
  clear bb
  obtain ⟨e1, e2, e3, e4, _⟩ := HX.out
  try simp only at e1 e2 e3 e4
  go_upto_region 5 with fail
  try rw [hw7]
  try rw [hbX]
  clear hw7 hbX
  go_cut [14] (fun s wx => ∃ z : Int, s = .int .i64 z ∧ Hid (DS wx g (g + 1)) ∧ Hid (w7.grownBy wx (some g)))
  case first =>
    have Gd : Hid (w7.grownBy w7.drew (some g)) := gr_below (gr_refl w7 _) (Below.refl _ _).drew
    have Dd : Hid (DS w7.drew g (g + 1)) := D_6.out.below (Below.refl _ _).drew
    refine wp_region_held_drew (S := (fun W : World => W.cell? ⟨bX, 0, none⟩ = some (.int .i64 xh) ∧ W.cell? ⟨bX, 1, none⟩ = some (.int .i64 xt) ∧ W.cell? ⟨bX, 2, none⟩ = some (.string xa) ∧ W.cell? ⟨bX, 3, none⟩ = some (.string xv) ∧ W.cell? ⟨bX, 4, none⟩ = some (.string xn) ∧ W.cell? ⟨bX, 5, none⟩ = some (.string xd))) (by kernel_rfl) ?_ (fun hHeld => ?_)
    · exact ⟨(KX.out.grown Gd.out (by simp; omega)).cell 0 rfl, (KX.out.grown Gd.out (by simp; omega)).cell 1 rfl, (KX.out.grown Gd.out (by simp; omega)).cell 2 rfl, (KX.out.grown Gd.out (by simp; omega)).cell 3 rfl, (KX.out.grown Gd.out (by simp; omega)).cell 4 rfl, (KX.out.grown Gd.out (by simp; omega)).cell 5 rfl⟩
    generalize w7.drew = wd at *
    refine wpAnyH_take (i := 0) (oi := { dst := Option.some 28, op := Go.Op.fieldAddr 27 (Go.Operand.tmp 11) 1, type := 0, pos := "l11_verify.go:104", after := #[], guard := Option.none }) (v := ?_) rfl (by kernel_rfl) (by kernel_rfl) (by kernel_rfl) (fun _ _ _ h => h) (Or.inl ⟨by rfl, ?_⟩) hHeld ?_
    rotate_left
    · intro w hSw
      try dsimp only at hSw
      go_simp
      try (with_reducible rfl)
    simp only [Act.put, List.setIfInBounds_toArray, List.set_cons_zero, List.set_cons_succ]
    refine wpAnyH_take (i := 1) (oi := { dst := Option.some 29, op := Go.Op.load 3 (Go.Operand.tmp 28), type := 3, pos := "l11_verify.go:104", after := #[{ on := 0, ground := Go.Ground.data }], guard := Option.none }) (v := ?_) rfl (by kernel_rfl) (by kernel_rfl) (by kernel_rfl) (fun _ _ _ h => h) (Or.inl ⟨by rfl, ?_⟩) hHeld ?_
    rotate_left
    · intro w hSw
      try dsimp only at hSw
      go_simp
      try (with_reducible rfl)
    simp only [Act.put, List.setIfInBounds_toArray, List.set_cons_zero, List.set_cons_succ]
    refine wpAnyH_take (i := 2) (oi := { dst := Option.some 30, op := Go.Op.move (Go.Operand.tmp 8), type := 67, pos := "l11_verify.go:104", after := #[], guard := Option.none }) (v := ?_) rfl (by kernel_rfl) (by kernel_rfl) (by kernel_rfl) (fun _ _ _ h => h) (Or.inl ⟨by rfl, ?_⟩) hHeld ?_
    rotate_left
    · intro w hSw
      try dsimp only at hSw
      go_simp
      try (with_reducible rfl)
    simp only [Act.put, List.setIfInBounds_toArray, List.set_cons_zero, List.set_cons_succ]
    refine wpAnyH_ready (rs := [3]) (by kernel_rfl) (by decide) ?_
    refine AllReadyH.cons (o := { dst := Option.some 31, op := Go.Op.call { callee := Go.Callee.value (Go.Operand.func 34), args := #[Go.Operand.tmp 30, Go.Operand.const (Go.Value.int Go.IntKind.i64 9)], argTypes := #[67, 3] }, type := 3, pos := "l11_verify.go:104", after := #[{ on := 2, ground := Go.Ground.data }], guard := Option.none }) rfl (fun K hK => ?_) AllReadyH.nil
    go_simp
    go_at_call 34
    refine (below_d g (g + 1) 9 _ Dd.out (by omega)).mono ?_
    rintro e v ⟨q, rfl, qa, qb, HD5, HG5⟩
    have Gp : Hid (w7.grownBy v (some g)) := grown_trans Gd.out HG5.out
    refine hK.out _ _ (⟨(KX.out.grown Gp.out (by simp; omega)).cell 0 rfl, (KX.out.grown Gp.out (by simp; omega)).cell 1 rfl, (KX.out.grown Gp.out (by simp; omega)).cell 2 rfl, (KX.out.grown Gp.out (by simp; omega)).cell 3 rfl, (KX.out.grown Gp.out (by simp; omega)).cell 4 rfl, (KX.out.grown Gp.out (by simp; omega)).cell 5 rfl⟩) (fun hHeld => ?_)
    clear hK K
    try simp only [Act.put, List.setIfInBounds_toArray, List.set_cons_zero, List.set_cons_succ]
    refine wpAnyH_take (i := 4) (oi := { dst := Option.some 32, op := Go.Op.binOp Go.BinOp.add 3 (Go.Operand.tmp 29) (Go.Operand.tmp 31) 3, type := 3, pos := "l11_verify.go:104", after := #[{ on := 1, ground := Go.Ground.data }, { on := 3, ground := Go.Ground.data }], guard := Option.none }) (v := ?_) rfl (by kernel_rfl) (by kernel_rfl) (by kernel_rfl) (fun _ _ _ h => h) (Or.inl ⟨by rfl, ?_⟩) hHeld ?_
    rotate_left
    · intro w hSw
      try dsimp only at hSw
      go_simp
      try (with_reducible rfl)
    simp only [Act.put, List.setIfInBounds_toArray, List.set_cons_zero, List.set_cons_succ]
    refine wpAnyH_take (i := 5) (oi := { dst := Option.some 33, op := Go.Op.binOp Go.BinOp.sub 3 (Go.Operand.tmp 32) (Go.Operand.const (Go.Value.int Go.IntKind.i64 2)) 3, type := 3, pos := "l11_verify.go:104", after := #[{ on := 4, ground := Go.Ground.data }], guard := Option.none }) (v := ?_) rfl (by kernel_rfl) (by kernel_rfl) (by kernel_rfl) (fun _ _ _ h => h) (Or.inl ⟨by rfl, ?_⟩) hHeld ?_
    rotate_left
    · intro w hSw
      try dsimp only at hSw
      go_simp
      try (with_reducible rfl)
    simp only [Act.put, List.setIfInBounds_toArray, List.set_cons_zero, List.set_cons_succ]
    refine wpAnyH_take (i := 6) (oi := { dst := Option.some 14, op := Go.Op.assign (Go.Operand.tmp 33), type := 3, pos := "l11_verify.go:104", after := #[{ on := 5, ground := Go.Ground.data }, { on := 3, ground := Go.Ground.chain }, { on := 0, ground := Go.Ground.phase }, { on := 1, ground := Go.Ground.phase }, { on := 2, ground := Go.Ground.phase }, { on := 3, ground := Go.Ground.phase }, { on := 4, ground := Go.Ground.phase }, { on := 5, ground := Go.Ground.phase }], guard := Option.none }) (v := ?_) rfl (by kernel_rfl) (by kernel_rfl) (by kernel_rfl) (fun _ _ _ h => h) (Or.inl ⟨by rfl, ?_⟩) hHeld ?_
    rotate_left
    · intro w hSw
      try dsimp only at hSw
      go_simp
      try (with_reducible rfl)
    simp only [Act.put, List.setIfInBounds_toArray, List.set_cons_zero, List.set_cons_succ]
    refine wpAnyH_done (by kernel_rfl) ?_ _
    go_wp2_with fail
    go_meet
    exact ⟨_, rfl, HD5, Gp⟩
  case rest =>
  rename World => w8
  obtain ⟨z0, rfl, HD, HG⟩ := hcut
  clear e1 e2 e3 e4
  have D_7 := HD
  have Z_7 : Hid (Rz w w8) := Z_6.out.gr HG.out hs0
  have KT_7 : Hid (Blk w8 bT [.int .i64 tp, .int .i64 ts] 25) := KT_6.out.grown HG.out (by simp; omega)
  have V_7 : Hid (DrR w8 (g + 1) u cu l) := V_6.out.call HG.out (Nat.lt_succ_self g)
  have KA_7 : Hid (Blk w8 bA [.int .i64 yh, .int .i64 yt, .string ya, .string yv, .string yn, .string yd, .slice u l.length cu] 30) := KA_6.out.grown HG.out (by simp; omega)
  have N_7 : Hid (DrR w8 (g + 1) un cn nx) := N_6.out.call HG.out (Nat.lt_succ_self g)
  have S_7 : Hid (DrS w8 (g + 1) uc ⟨ch, cr, ci, cl⟩) := S_6.out.call HG.out (Nat.lt_succ_self g)
  have KX_7 : Hid (Blk w8 bX [.int .i64 xh, .int .i64 xt, .string xa, .string xv, .string xn, .string xd] 27) := KX.out.grown HG.out (by simp; omega)
  have KC_7 : Hid (Blk w8 (bX + 1) [.int .i64 ch, .int .i64 cr, .string ci, .slice uc cl.length cc] 33) := KC.out.grown HG.out (by simp; omega)
  have hz_7 : g + 1 ≤ w8.heap.size := by have := HG.out.size; omega
  clear D_6 HD Z_6 KT_6 V_6 KA_6 N_6 S_6 KX KC HG
  go_wp2_with fail
  refine (once_d g (g + 1) 5 _ D_7.out).mono ?_
  rintro e w9 ⟨t5, rfl, HD, HG⟩
  have D_8 := HD
  have Z_8 : Hid (Rz w w9) := Z_7.out.gr HG.out hs0
  have KT_8 : Hid (Blk w9 bT [.int .i64 tp, .int .i64 ts] 25) := KT_7.out.grown HG.out (by simp; omega)
  have V_8 : Hid (DrR w9 (g + 1) u cu l) := V_7.out.call HG.out (Nat.lt_succ_self g)
  have KA_8 : Hid (Blk w9 bA [.int .i64 yh, .int .i64 yt, .string ya, .string yv, .string yn, .string yd, .slice u l.length cu] 30) := KA_7.out.grown HG.out (by simp; omega)
  have N_8 : Hid (DrR w9 (g + 1) un cn nx) := N_7.out.call HG.out (Nat.lt_succ_self g)
  have S_8 : Hid (DrS w9 (g + 1) uc ⟨ch, cr, ci, cl⟩) := S_7.out.call HG.out (Nat.lt_succ_self g)
  have KX_8 : Hid (Blk w9 bX [.int .i64 xh, .int .i64 xt, .string xa, .string xv, .string xn, .string xd] 27) := KX_7.out.grown HG.out (by simp; omega)
  have KC_8 : Hid (Blk w9 (bX + 1) [.int .i64 ch, .int .i64 cr, .string ci, .slice uc cl.length cc] 33) := KC_7.out.grown HG.out (by simp; omega)
  have hz_8 : g + 1 ≤ w9.heap.size := by have := HG.out.size; omega
  clear D_7 HD Z_7 KT_7 V_7 KA_7 N_7 S_7 KX_7 KC_7 HG
  go_upto_if 35 with fail
  go_cut [14] (fun s wx => ∃ z : Int, s = .int .i64 z ∧ Hid (DS wx g (g + 1)) ∧ Hid (w9.grownBy wx (some g)))
  case first =>
    rcases t5 with _ | _
    · go_wp2_with fail
      go_meet
      exact ⟨z0, rfl, D_8, gr_refl _ _⟩
    · go_wp2_with fail
      refine (at_d g (g + 1) w9 D_8.out (by omega)).mono ?_
      rintro e wa ⟨z1, rfl, za, zb, HD, HG⟩
      go_wp2_with fail
      go_meet
      exact ⟨z1, rfl, HD, HG⟩
  case rest =>
  rename World => wa
  obtain ⟨z, rfl, HD, HG⟩ := hcut
  have D_9 := HD
  have Z_9 : Hid (Rz w wa) := Z_8.out.gr HG.out hs0
  have KT_9 : Hid (Blk wa bT [.int .i64 tp, .int .i64 ts] 25) := KT_8.out.grown HG.out (by simp; omega)
  have V_9 : Hid (DrR wa (g + 1) u cu l) := V_8.out.call HG.out (Nat.lt_succ_self g)
  have KA_9 : Hid (Blk wa bA [.int .i64 yh, .int .i64 yt, .string ya, .string yv, .string yn, .string yd, .slice u l.length cu] 30) := KA_8.out.grown HG.out (by simp; omega)
  have N_9 : Hid (DrR wa (g + 1) un cn nx) := N_8.out.call HG.out (Nat.lt_succ_self g)
  have S_9 : Hid (DrS wa (g + 1) uc ⟨ch, cr, ci, cl⟩) := S_8.out.call HG.out (Nat.lt_succ_self g)
  have KX_9 : Hid (Blk wa bX [.int .i64 xh, .int .i64 xt, .string xa, .string xv, .string xn, .string xd] 27) := KX_8.out.grown HG.out (by simp; omega)
  have KC_9 : Hid (Blk wa (bX + 1) [.int .i64 ch, .int .i64 cr, .string ci, .slice uc cl.length cc] 33) := KC_8.out.grown HG.out (by simp; omega)
  have hz_9 : g + 1 ≤ wa.heap.size := by have := HG.out.size; omega
  clear D_8 HD Z_8 KT_8 V_8 KA_8 N_8 S_8 KX_8 KC_8 HG
  go_wp2_with fail
  refine (once_d g (g + 1) 15 _ D_9.out).mono ?_
  rintro e wb ⟨t8, rfl, HD, HG⟩
  have D_10 := HD
  have Z_10 : Hid (Rz w wb) := Z_9.out.gr HG.out hs0
  have KT_10 : Hid (Blk wb bT [.int .i64 tp, .int .i64 ts] 25) := KT_9.out.grown HG.out (by simp; omega)
  have V_10 : Hid (DrR wb (g + 1) u cu l) := V_9.out.call HG.out (Nat.lt_succ_self g)
  have KA_10 : Hid (Blk wb bA [.int .i64 yh, .int .i64 yt, .string ya, .string yv, .string yn, .string yd, .slice u l.length cu] 30) := KA_9.out.grown HG.out (by simp; omega)
  have N_10 : Hid (DrR wb (g + 1) un cn nx) := N_9.out.call HG.out (Nat.lt_succ_self g)
  have S_10 : Hid (DrS wb (g + 1) uc ⟨ch, cr, ci, cl⟩) := S_9.out.call HG.out (Nat.lt_succ_self g)
  have KX_10 : Hid (Blk wb bX [.int .i64 xh, .int .i64 xt, .string xa, .string xv, .string xn, .string xd] 27) := KX_9.out.grown HG.out (by simp; omega)
  have KC_10 : Hid (Blk wb (bX + 1) [.int .i64 ch, .int .i64 cr, .string ci, .slice uc cl.length cc] 33) := KC_9.out.grown HG.out (by simp; omega)
  have hz_10 : g + 1 ≤ wb.heap.size := by have := HG.out.size; omega
  clear D_9 HD Z_9 KT_9 V_9 KA_9 N_9 S_9 KX_9 KC_9 HG
  go_upto_if 39 with fail
  go_cut [] (fun wx => ∃ (l2 : List V) (u2 : Option Addr) (c2 : Nat), Hid (Blk wx bA [.int .i64 yh, .int .i64 yt, .string ya, .string yv, .string yn, .string yd, .slice u2 l2.length c2] 30) ∧ Hid (DrR wx (g + 1) u2 c2 l2) ∧ Hid (DS wx g (g + 1)) ∧ Hid (Rz w wx) ∧ Hid (Blk wx bT [.int .i64 tp, .int .i64 ts] 25) ∧ Hid (Blk wx bX [.int .i64 xh, .int .i64 xt, .string xa, .string xv, .string xn, .string xd] 27) ∧ Hid (Blk wx (bX + 1) [.int .i64 ch, .int .i64 cr, .string ci, .slice uc cl.length cc] 33) ∧ Hid (DrR wx (g + 1) un cn nx) ∧ Hid (DrS wx (g + 1) uc ⟨ch, cr, ci, cl⟩))
  case first =>
    rcases t8 with _ | _
    · go_wp2_with fail
      go_meet
      exact ⟨l, u, cu, KA_10, V_10, D_10, Z_10, KT_10, KX_10, KC_10, N_10, S_10⟩
    · go_wp2_with fail
      refine (any_d g (g + 1) wb D_10.out (by omega)).mono ?_
      rintro e wc ⟨v2, l2, rfl, HV2, HL2, HD, HG⟩
      obtain ⟨u2, c2, rfl, HVd2⟩ := OwnV.dr HV2.out HL2.out.1
      have RV2 : Hid (DrR wc (g + 1) u2 c2 l2) := HVd2.lo (by omega)
      have hlo2 : Hid (∀ b o, u2 = some ⟨b, o, none⟩ → wb.heap.size ≤ b) := fun b o e => (HVd2.2.2.2 b o e).1
      have hCb : bX + 1 < wb.heap.size := KC_10.out.lt
      have hNA : Hid (∀ b o, un = some ⟨b, o, none⟩ → b ≠ bA) := hN_A
      have hSA : Hid (∀ b o, uc = some ⟨b, o, none⟩ → b ≠ bA) := hS_A
      have D_11 := HD
      have Z_11 : Hid (Rz w wc) := Z_10.out.gr HG.out hs0
      have KT_11 : Hid (Blk wc bT [.int .i64 tp, .int .i64 ts] 25) := KT_10.out.grown HG.out (by simp; omega)
      have KA_11 : Hid (Blk wc bA [.int .i64 yh, .int .i64 yt, .string ya, .string yv, .string yn, .string yd, .slice u l.length cu] 30) := KA_10.out.grown HG.out (by simp; omega)
      have N_11 : Hid (DrR wc (g + 1) un cn nx) := N_10.out.call HG.out (Nat.lt_succ_self g)
      have S_11 : Hid (DrS wc (g + 1) uc ⟨ch, cr, ci, cl⟩) := S_10.out.call HG.out (Nat.lt_succ_self g)
      have KX_11 : Hid (Blk wc bX [.int .i64 xh, .int .i64 xt, .string xa, .string xv, .string xn, .string xd] 27) := KX_10.out.grown HG.out (by simp; omega)
      have KC_11 : Hid (Blk wc (bX + 1) [.int .i64 ch, .int .i64 cr, .string ci, .slice uc cl.length cc] 33) := KC_10.out.grown HG.out (by simp; omega)
      have hz_11 : g + 1 ≤ wc.heap.size := by have := HG.out.size; omega
      clear D_10 HD Z_10 KT_10 KA_10 N_10 S_10 KX_10 KC_10 HG
      have za0 := KA_11.out.cell 0 rfl
      have za1 := KA_11.out.cell 1 rfl
      have za2 := KA_11.out.cell 2 rfl
      have za3 := KA_11.out.cell 3 rfl
      have za4 := KA_11.out.cell 4 rfl
      have za5 := KA_11.out.cell 5 rfl
      have za6 := KA_11.out.cell 6 rfl
      have fa := KA_11.out.frozen 6
      have hzw : w.heap.size + 3 < bA := by omega
      go_wp2_with fail
      go_meet
      exact ⟨l2, u2, c2, KA_11.out.set 6 _, RV2.out.set 6 _ (fun b o e => by have := hlo2.out b o e; omega), D_11.out.below ((Below.refl (g + 1) wc).setCell (p := ⟨bA, 6, none⟩) (show g + 1 ≤ bA by omega) _), ⟨Z_11.out.1.other 6 _ (by omega), Z_11.out.2.1.other 6 _ (by omega), Z_11.out.2.2.1.other 6 _ (by omega), Z_11.out.2.2.2.1.other 6 _ (by omega), Z_11.out.2.2.2.2.setCell (p := ⟨bA, 6, none⟩) (show w.heap.size ≤ bA by omega) _⟩, KT_11.out.other 6 _ (by omega), KX_11.out.other 6 _ (by omega), KC_11.out.other 6 _ (by omega), N_11.out.set 6 _ hNA.out, S_11.out.set 6 _ hSA.out⟩
  case rest =>
  rename World => wc
  obtain ⟨l2, u2, c2, KA2, RV2, D2, Z2, KT2, KX2, KC2, RN2, RS2⟩ := hcut
  clear D_10 Z_10 KT_10 V_10 KA_10 N_10 S_10 KX_10 KC_10
  have hCc : bX + 1 < wc.heap.size := KC2.out.lt
  go_wp2_with fail
  have KTd : Hid (Blk wc.drew bT [.int .i64 tp, .int .i64 ts] 25) := KT2.out
  have KAd : Hid (Blk wc.drew bA [.int .i64 yh, .int .i64 yt, .string ya, .string yv, .string yn, .string yd, .slice u2 l2.length c2] 30) := KA2.out
  have KXd : Hid (Blk wc.drew bX [.int .i64 xh, .int .i64 xt, .string xa, .string xv, .string xn, .string xd] 27) := KX2.out
  have KCd : Hid (Blk wc.drew (bX + 1) [.int .i64 ch, .int .i64 cr, .string ci, .slice uc cl.length cc] 33) := KC2.out
  have Zd : Hid (Rz w wc.drew) := Z2.out.below (Below.refl _ _).drew
  have Vd : Hid (DrR wc.drew (g + 1) u2 c2 l2) := RV2.out.below (Below.refl _ _).drew
  have Nd : Hid (DrR wc.drew (g + 1) un cn nx) := RN2.out.below (Below.refl _ _).drew
  have Sd : Hid (DrS wc.drew (g + 1) uc ⟨ch, cr, ci, cl⟩) := RS2.out.below (Below.refl _ _).drew
  refine wp_region_held_drew (S := (fun W : World => (W.cell? ⟨bT, 0, none⟩ = some (.int .i64 tp) ∧ W.cell? ⟨bT, 1, none⟩ = some (.int .i64 ts)) ∧ (W.cell? ⟨bA, 0, none⟩ = some (.int .i64 yh) ∧ W.cell? ⟨bA, 1, none⟩ = some (.int .i64 yt) ∧ W.cell? ⟨bA, 2, none⟩ = some (.string ya) ∧ W.cell? ⟨bA, 3, none⟩ = some (.string yv) ∧ W.cell? ⟨bA, 4, none⟩ = some (.string yn) ∧ W.cell? ⟨bA, 5, none⟩ = some (.string yd) ∧ W.cell? ⟨bA, 6, none⟩ = some (.slice u2 l2.length c2)) ∧ (W.cell? ⟨bX, 0, none⟩ = some (.int .i64 xh) ∧ W.cell? ⟨bX, 1, none⟩ = some (.int .i64 xt) ∧ W.cell? ⟨bX, 2, none⟩ = some (.string xa) ∧ W.cell? ⟨bX, 3, none⟩ = some (.string xv) ∧ W.cell? ⟨bX, 4, none⟩ = some (.string xn) ∧ W.cell? ⟨bX, 5, none⟩ = some (.string xd)) ∧ (W.cell? ⟨(bX + 1), 0, none⟩ = some (.int .i64 ch) ∧ W.cell? ⟨(bX + 1), 1, none⟩ = some (.int .i64 cr) ∧ W.cell? ⟨(bX + 1), 2, none⟩ = some (.string ci) ∧ W.cell? ⟨(bX + 1), 3, none⟩ = some (.slice uc cl.length cc)))) (by kernel_rfl) ?_ (fun hHeld => ?_)
  · exact ⟨⟨(KTd.out).cell 0 rfl, (KTd.out).cell 1 rfl⟩, ⟨(KAd.out).cell 0 rfl, (KAd.out).cell 1 rfl, (KAd.out).cell 2 rfl, (KAd.out).cell 3 rfl, (KAd.out).cell 4 rfl, (KAd.out).cell 5 rfl, (KAd.out).cell 6 rfl⟩, ⟨(KXd.out).cell 0 rfl, (KXd.out).cell 1 rfl, (KXd.out).cell 2 rfl, (KXd.out).cell 3 rfl, (KXd.out).cell 4 rfl, (KXd.out).cell 5 rfl⟩, ⟨(KCd.out).cell 0 rfl, (KCd.out).cell 1 rfl, (KCd.out).cell 2 rfl, (KCd.out).cell 3 rfl⟩⟩
  generalize wc.drew = wd at *
  refine wpAnyH_take (i := 0) (oi := { dst := Option.some 43, op := Go.Op.load 25 (Go.Operand.tmp 9), type := 25, pos := "l11_verify.go:111", after := #[], guard := Option.none }) (v := ?_) rfl (by kernel_rfl) (by kernel_rfl) (by kernel_rfl) (fun _ _ _ h => h) (Or.inl ⟨by rfl, ?_⟩) hHeld ?_
  rotate_left
  · intro w hSw
    try dsimp only at hSw
    go_simp
    try (with_reducible rfl)
  simp only [Act.put, List.setIfInBounds_toArray, List.set_cons_zero, List.set_cons_succ]
  refine wpAnyH_take (i := 1) (oi := { dst := Option.some 44, op := Go.Op.load 30 (Go.Operand.tmp 10), type := 30, pos := "l11_verify.go:111", after := #[{ on := 6, ground := Go.Ground.gcOnly Go.Departure.lateStores }], guard := Option.none }) (v := ?_) rfl (by kernel_rfl) (by kernel_rfl) (by kernel_rfl) (fun _ _ _ h => h) (Or.inl ⟨by rfl, ?_⟩) hHeld ?_
  rotate_left
  · intro w hSw
    try dsimp only at hSw
    go_simp
    try (with_reducible rfl)
  simp only [Act.put, List.setIfInBounds_toArray, List.set_cons_zero, List.set_cons_succ]
  refine wpAnyH_take (i := 2) (oi := { dst := Option.some 45, op := Go.Op.load 27 (Go.Operand.tmp 11), type := 27, pos := "l11_verify.go:111", after := #[{ on := 7, ground := Go.Ground.gcOnly Go.Departure.lateStores }], guard := Option.none }) (v := ?_) rfl (by kernel_rfl) (by kernel_rfl) (by kernel_rfl) (fun _ _ _ h => h) (Or.inl ⟨by rfl, ?_⟩) hHeld ?_
  rotate_left
  · intro w hSw
    try dsimp only at hSw
    go_simp
    try (with_reducible rfl)
  simp only [Act.put, List.setIfInBounds_toArray, List.set_cons_zero, List.set_cons_succ]
  refine wpAnyH_take (i := 3) (oi := { dst := Option.some 46, op := Go.Op.move (Go.Operand.tmp 12), type := 28, pos := "l11_verify.go:111", after := #[{ on := 8, ground := Go.Ground.gcOnly Go.Departure.lateStores }], guard := Option.none }) (v := ?_) rfl (by kernel_rfl) (by kernel_rfl) (by kernel_rfl) (fun _ _ _ h => h) (Or.inl ⟨by rfl, ?_⟩) hHeld ?_
  rotate_left
  · intro w hSw
    try dsimp only at hSw
    go_simp
    try (with_reducible rfl)
  simp only [Act.put, List.setIfInBounds_toArray, List.set_cons_zero, List.set_cons_succ]
  refine wpAnyH_take (i := 4) (oi := { dst := Option.some 47, op := Go.Op.load 33 (Go.Operand.tmp 13), type := 33, pos := "l11_verify.go:111", after := #[{ on := 9, ground := Go.Ground.gcOnly Go.Departure.lateStores }], guard := Option.none }) (v := ?_) rfl (by kernel_rfl) (by kernel_rfl) (by kernel_rfl) (fun _ _ _ h => h) (Or.inl ⟨by rfl, ?_⟩) hHeld ?_
  rotate_left
  · intro w hSw
    try dsimp only at hSw
    go_simp
    try (with_reducible rfl)
  simp only [Act.put, List.setIfInBounds_toArray, List.set_cons_zero, List.set_cons_succ]
  refine wpAnyH_take (i := 5) (oi := { dst := Option.some 48, op := Go.Op.move (Go.Operand.tmp 14), type := 3, pos := "l11_verify.go:111", after := #[{ on := 10, ground := Go.Ground.gcOnly Go.Departure.lateStores }], guard := Option.none }) (v := ?_) rfl (by kernel_rfl) (by kernel_rfl) (by kernel_rfl) (fun _ _ _ h => h) (Or.inl ⟨by rfl, ?_⟩) hHeld ?_
  rotate_left
  · intro w hSw
    try dsimp only at hSw
    go_simp
    try (with_reducible rfl)
  simp only [Act.put, List.setIfInBounds_toArray, List.set_cons_zero, List.set_cons_succ]
  refine wpAnyH_ready (rs := [6]) (by kernel_rfl) (by decide) ?_
  refine AllReadyH.cons (o := { dst := Option.none, op := Go.Op.store 25 (Go.Operand.tmp 2) (Go.Operand.tmp 43), type := 0, pos := "l11_verify.go:111", after := #[{ on := 0, ground := Go.Ground.data }, { on := 0, ground := Go.Ground.phase }, { on := 1, ground := Go.Ground.textOnly Go.Departure.lateStores }, { on := 2, ground := Go.Ground.textOnly Go.Departure.lateStores }, { on := 3, ground := Go.Ground.textOnly Go.Departure.lateStores }, { on := 4, ground := Go.Ground.textOnly Go.Departure.lateStores }, { on := 5, ground := Go.Ground.textOnly Go.Departure.lateStores }], guard := Option.none }) rfl (fun K hK => ?_) AllReadyH.nil
  have K0_0 : Hid (Blk ((wd.setCell ⟨w.heap.size, 0, none⟩ (.int .i64 tp)).setCell ⟨w.heap.size, 1, none⟩ (.int .i64 ts)) bT [.int .i64 tp, .int .i64 ts] 25) := ((KTd.out.other 0 _ (by omega)).other 1 _ (by omega))
  have K0_1 : Hid (Blk ((wd.setCell ⟨w.heap.size, 0, none⟩ (.int .i64 tp)).setCell ⟨w.heap.size, 1, none⟩ (.int .i64 ts)) bA [.int .i64 yh, .int .i64 yt, .string ya, .string yv, .string yn, .string yd, .slice u2 l2.length c2] 30) := ((KAd.out.other 0 _ (by omega)).other 1 _ (by omega))
  have K0_2 : Hid (Blk ((wd.setCell ⟨w.heap.size, 0, none⟩ (.int .i64 tp)).setCell ⟨w.heap.size, 1, none⟩ (.int .i64 ts)) bX [.int .i64 xh, .int .i64 xt, .string xa, .string xv, .string xn, .string xd] 27) := ((KXd.out.other 0 _ (by omega)).other 1 _ (by omega))
  have K0_3 : Hid (Blk ((wd.setCell ⟨w.heap.size, 0, none⟩ (.int .i64 tp)).setCell ⟨w.heap.size, 1, none⟩ (.int .i64 ts)) (bX + 1) [.int .i64 ch, .int .i64 cr, .string ci, .slice uc cl.length cc] 33) := ((KCd.out.other 0 _ (by omega)).other 1 _ (by omega))
  have R0_0 : Hid (Blk ((wd.setCell ⟨w.heap.size, 0, none⟩ (.int .i64 tp)).setCell ⟨w.heap.size, 1, none⟩ (.int .i64 ts)) (w.heap.size) [.int .i64 tp, .int .i64 ts] 25) := ((Zd.out.1.set 0 _).set 1 _)
  have R0_1 : Hid (Blk ((wd.setCell ⟨w.heap.size, 0, none⟩ (.int .i64 tp)).setCell ⟨w.heap.size, 1, none⟩ (.int .i64 ts)) (w.heap.size + 1) [.int .i64 0, .int .i64 0, .string ⟨#[]⟩, .string ⟨#[]⟩, .string ⟨#[]⟩, .string ⟨#[]⟩, .slice none 0 0] 30) := ((Zd.out.2.1.other 0 _ (by omega)).other 1 _ (by omega))
  have R0_2 : Hid (Blk ((wd.setCell ⟨w.heap.size, 0, none⟩ (.int .i64 tp)).setCell ⟨w.heap.size, 1, none⟩ (.int .i64 ts)) (w.heap.size + 2) [.int .i64 0, .int .i64 0, .string ⟨#[]⟩, .string ⟨#[]⟩, .string ⟨#[]⟩, .string ⟨#[]⟩] 27) := ((Zd.out.2.2.1.other 0 _ (by omega)).other 1 _ (by omega))
  have R0_3 : Hid (Blk ((wd.setCell ⟨w.heap.size, 0, none⟩ (.int .i64 tp)).setCell ⟨w.heap.size, 1, none⟩ (.int .i64 ts)) (w.heap.size + 3) [.int .i64 0, .int .i64 0, .string ⟨#[]⟩, .slice none 0 0] 33) := ((Zd.out.2.2.2.1.other 0 _ (by omega)).other 1 _ (by omega))
  have B0 : Hid (Below w.heap.size w ((wd.setCell ⟨w.heap.size, 0, none⟩ (.int .i64 tp)).setCell ⟨w.heap.size, 1, none⟩ (.int .i64 ts))) := ((Zd.out.2.2.2.2.setCell (p := ⟨w.heap.size, 0, none⟩) (show w.heap.size ≤ w.heap.size by omega) _).setCell (p := ⟨w.heap.size, 1, none⟩) (show w.heap.size ≤ w.heap.size by omega) _)
  have V0 : Hid (DrR ((wd.setCell ⟨w.heap.size, 0, none⟩ (.int .i64 tp)).setCell ⟨w.heap.size, 1, none⟩ (.int .i64 ts)) (g + 1) u2 c2 l2) := ((Vd.out.set 0 _ (fun b o e => by have := RV2.out.2.2.2 b o e; omega)).set 1 _ (fun b o e => by have := RV2.out.2.2.2 b o e; omega))
  have N0 : Hid (DrR ((wd.setCell ⟨w.heap.size, 0, none⟩ (.int .i64 tp)).setCell ⟨w.heap.size, 1, none⟩ (.int .i64 ts)) (g + 1) un cn nx) := ((Nd.out.set 0 _ (fun b o e => by have := RN2.out.2.2.2 b o e; omega)).set 1 _ (fun b o e => by have := RN2.out.2.2.2 b o e; omega))
  have S0 : Hid (DrS ((wd.setCell ⟨w.heap.size, 0, none⟩ (.int .i64 tp)).setCell ⟨w.heap.size, 1, none⟩ (.int .i64 ts)) (g + 1) uc ⟨ch, cr, ci, cl⟩) := ((Sd.out.set 0 _ (fun b o e => by have := RS2.out.2.2.2.2 b o e; omega)).set 1 _ (fun b o e => by have := RS2.out.2.2.2.2 b o e; omega))
  have p0_0 := (Zd.out.1).cell 0 rfl
  have p0_1 := (Zd.out.1).cell 1 rfl
  have pf0 := fun q => (Zd.out.1).frozen q
  go_simp
  clear p0_0 p0_1 pf0
  refine hK.out _ _ (⟨⟨(K0_0.out).cell 0 rfl, (K0_0.out).cell 1 rfl⟩, ⟨(K0_1.out).cell 0 rfl, (K0_1.out).cell 1 rfl, (K0_1.out).cell 2 rfl, (K0_1.out).cell 3 rfl, (K0_1.out).cell 4 rfl, (K0_1.out).cell 5 rfl, (K0_1.out).cell 6 rfl⟩, ⟨(K0_2.out).cell 0 rfl, (K0_2.out).cell 1 rfl, (K0_2.out).cell 2 rfl, (K0_2.out).cell 3 rfl, (K0_2.out).cell 4 rfl, (K0_2.out).cell 5 rfl⟩, ⟨(K0_3.out).cell 0 rfl, (K0_3.out).cell 1 rfl, (K0_3.out).cell 2 rfl, (K0_3.out).cell 3 rfl⟩⟩) (fun hHeld => ?_)
  clear hK K
  try simp only [Act.put, List.setIfInBounds_toArray, List.set_cons_zero, List.set_cons_succ]
  refine wpAnyH_ready (rs := [7]) (by kernel_rfl) (by decide) ?_
  refine AllReadyH.cons (o := { dst := Option.none, op := Go.Op.store 30 (Go.Operand.tmp 3) (Go.Operand.tmp 44), type := 0, pos := "l11_verify.go:111", after := #[{ on := 1, ground := Go.Ground.data }, { on := 6, ground := Go.Ground.chain }, { on := 0, ground := Go.Ground.phase }, { on := 1, ground := Go.Ground.phase }, { on := 2, ground := Go.Ground.textOnly Go.Departure.lateStores }, { on := 3, ground := Go.Ground.textOnly Go.Departure.lateStores }, { on := 4, ground := Go.Ground.textOnly Go.Departure.lateStores }, { on := 5, ground := Go.Ground.textOnly Go.Departure.lateStores }, { on := 6, ground := Go.Ground.phase }], guard := Option.none }) rfl (fun K hK => ?_) AllReadyH.nil
  have K1_0 : Hid (Blk (((((((((wd.setCell ⟨w.heap.size, 0, none⟩ (.int .i64 tp)).setCell ⟨w.heap.size, 1, none⟩ (.int .i64 ts)).setCell ⟨w.heap.size + 1, 0, none⟩ (.int .i64 yh)).setCell ⟨w.heap.size + 1, 1, none⟩ (.int .i64 yt)).setCell ⟨w.heap.size + 1, 2, none⟩ (.string ya)).setCell ⟨w.heap.size + 1, 3, none⟩ (.string yv)).setCell ⟨w.heap.size + 1, 4, none⟩ (.string yn)).setCell ⟨w.heap.size + 1, 5, none⟩ (.string yd)).setCell ⟨w.heap.size + 1, 6, none⟩ (.slice u2 l2.length c2)) bT [.int .i64 tp, .int .i64 ts] 25) := (((((((K0_0.out.other 0 _ (by omega)).other 1 _ (by omega)).other 2 _ (by omega)).other 3 _ (by omega)).other 4 _ (by omega)).other 5 _ (by omega)).other 6 _ (by omega))
  have K1_1 : Hid (Blk (((((((((wd.setCell ⟨w.heap.size, 0, none⟩ (.int .i64 tp)).setCell ⟨w.heap.size, 1, none⟩ (.int .i64 ts)).setCell ⟨w.heap.size + 1, 0, none⟩ (.int .i64 yh)).setCell ⟨w.heap.size + 1, 1, none⟩ (.int .i64 yt)).setCell ⟨w.heap.size + 1, 2, none⟩ (.string ya)).setCell ⟨w.heap.size + 1, 3, none⟩ (.string yv)).setCell ⟨w.heap.size + 1, 4, none⟩ (.string yn)).setCell ⟨w.heap.size + 1, 5, none⟩ (.string yd)).setCell ⟨w.heap.size + 1, 6, none⟩ (.slice u2 l2.length c2)) bA [.int .i64 yh, .int .i64 yt, .string ya, .string yv, .string yn, .string yd, .slice u2 l2.length c2] 30) := (((((((K0_1.out.other 0 _ (by omega)).other 1 _ (by omega)).other 2 _ (by omega)).other 3 _ (by omega)).other 4 _ (by omega)).other 5 _ (by omega)).other 6 _ (by omega))
  have K1_2 : Hid (Blk (((((((((wd.setCell ⟨w.heap.size, 0, none⟩ (.int .i64 tp)).setCell ⟨w.heap.size, 1, none⟩ (.int .i64 ts)).setCell ⟨w.heap.size + 1, 0, none⟩ (.int .i64 yh)).setCell ⟨w.heap.size + 1, 1, none⟩ (.int .i64 yt)).setCell ⟨w.heap.size + 1, 2, none⟩ (.string ya)).setCell ⟨w.heap.size + 1, 3, none⟩ (.string yv)).setCell ⟨w.heap.size + 1, 4, none⟩ (.string yn)).setCell ⟨w.heap.size + 1, 5, none⟩ (.string yd)).setCell ⟨w.heap.size + 1, 6, none⟩ (.slice u2 l2.length c2)) bX [.int .i64 xh, .int .i64 xt, .string xa, .string xv, .string xn, .string xd] 27) := (((((((K0_2.out.other 0 _ (by omega)).other 1 _ (by omega)).other 2 _ (by omega)).other 3 _ (by omega)).other 4 _ (by omega)).other 5 _ (by omega)).other 6 _ (by omega))
  have K1_3 : Hid (Blk (((((((((wd.setCell ⟨w.heap.size, 0, none⟩ (.int .i64 tp)).setCell ⟨w.heap.size, 1, none⟩ (.int .i64 ts)).setCell ⟨w.heap.size + 1, 0, none⟩ (.int .i64 yh)).setCell ⟨w.heap.size + 1, 1, none⟩ (.int .i64 yt)).setCell ⟨w.heap.size + 1, 2, none⟩ (.string ya)).setCell ⟨w.heap.size + 1, 3, none⟩ (.string yv)).setCell ⟨w.heap.size + 1, 4, none⟩ (.string yn)).setCell ⟨w.heap.size + 1, 5, none⟩ (.string yd)).setCell ⟨w.heap.size + 1, 6, none⟩ (.slice u2 l2.length c2)) (bX + 1) [.int .i64 ch, .int .i64 cr, .string ci, .slice uc cl.length cc] 33) := (((((((K0_3.out.other 0 _ (by omega)).other 1 _ (by omega)).other 2 _ (by omega)).other 3 _ (by omega)).other 4 _ (by omega)).other 5 _ (by omega)).other 6 _ (by omega))
  have R1_0 : Hid (Blk (((((((((wd.setCell ⟨w.heap.size, 0, none⟩ (.int .i64 tp)).setCell ⟨w.heap.size, 1, none⟩ (.int .i64 ts)).setCell ⟨w.heap.size + 1, 0, none⟩ (.int .i64 yh)).setCell ⟨w.heap.size + 1, 1, none⟩ (.int .i64 yt)).setCell ⟨w.heap.size + 1, 2, none⟩ (.string ya)).setCell ⟨w.heap.size + 1, 3, none⟩ (.string yv)).setCell ⟨w.heap.size + 1, 4, none⟩ (.string yn)).setCell ⟨w.heap.size + 1, 5, none⟩ (.string yd)).setCell ⟨w.heap.size + 1, 6, none⟩ (.slice u2 l2.length c2)) (w.heap.size) [.int .i64 tp, .int .i64 ts] 25) := (((((((R0_0.out.other 0 _ (by omega)).other 1 _ (by omega)).other 2 _ (by omega)).other 3 _ (by omega)).other 4 _ (by omega)).other 5 _ (by omega)).other 6 _ (by omega))
  have R1_1 : Hid (Blk (((((((((wd.setCell ⟨w.heap.size, 0, none⟩ (.int .i64 tp)).setCell ⟨w.heap.size, 1, none⟩ (.int .i64 ts)).setCell ⟨w.heap.size + 1, 0, none⟩ (.int .i64 yh)).setCell ⟨w.heap.size + 1, 1, none⟩ (.int .i64 yt)).setCell ⟨w.heap.size + 1, 2, none⟩ (.string ya)).setCell ⟨w.heap.size + 1, 3, none⟩ (.string yv)).setCell ⟨w.heap.size + 1, 4, none⟩ (.string yn)).setCell ⟨w.heap.size + 1, 5, none⟩ (.string yd)).setCell ⟨w.heap.size + 1, 6, none⟩ (.slice u2 l2.length c2)) (w.heap.size + 1) [.int .i64 yh, .int .i64 yt, .string ya, .string yv, .string yn, .string yd, .slice u2 l2.length c2] 30) := (((((((R0_1.out.set 0 _).set 1 _).set 2 _).set 3 _).set 4 _).set 5 _).set 6 _)
  have R1_2 : Hid (Blk (((((((((wd.setCell ⟨w.heap.size, 0, none⟩ (.int .i64 tp)).setCell ⟨w.heap.size, 1, none⟩ (.int .i64 ts)).setCell ⟨w.heap.size + 1, 0, none⟩ (.int .i64 yh)).setCell ⟨w.heap.size + 1, 1, none⟩ (.int .i64 yt)).setCell ⟨w.heap.size + 1, 2, none⟩ (.string ya)).setCell ⟨w.heap.size + 1, 3, none⟩ (.string yv)).setCell ⟨w.heap.size + 1, 4, none⟩ (.string yn)).setCell ⟨w.heap.size + 1, 5, none⟩ (.string yd)).setCell ⟨w.heap.size + 1, 6, none⟩ (.slice u2 l2.length c2)) (w.heap.size + 2) [.int .i64 0, .int .i64 0, .string ⟨#[]⟩, .string ⟨#[]⟩, .string ⟨#[]⟩, .string ⟨#[]⟩] 27) := (((((((R0_2.out.other 0 _ (by omega)).other 1 _ (by omega)).other 2 _ (by omega)).other 3 _ (by omega)).other 4 _ (by omega)).other 5 _ (by omega)).other 6 _ (by omega))
  have R1_3 : Hid (Blk (((((((((wd.setCell ⟨w.heap.size, 0, none⟩ (.int .i64 tp)).setCell ⟨w.heap.size, 1, none⟩ (.int .i64 ts)).setCell ⟨w.heap.size + 1, 0, none⟩ (.int .i64 yh)).setCell ⟨w.heap.size + 1, 1, none⟩ (.int .i64 yt)).setCell ⟨w.heap.size + 1, 2, none⟩ (.string ya)).setCell ⟨w.heap.size + 1, 3, none⟩ (.string yv)).setCell ⟨w.heap.size + 1, 4, none⟩ (.string yn)).setCell ⟨w.heap.size + 1, 5, none⟩ (.string yd)).setCell ⟨w.heap.size + 1, 6, none⟩ (.slice u2 l2.length c2)) (w.heap.size + 3) [.int .i64 0, .int .i64 0, .string ⟨#[]⟩, .slice none 0 0] 33) := (((((((R0_3.out.other 0 _ (by omega)).other 1 _ (by omega)).other 2 _ (by omega)).other 3 _ (by omega)).other 4 _ (by omega)).other 5 _ (by omega)).other 6 _ (by omega))
  have B1 : Hid (Below w.heap.size w (((((((((wd.setCell ⟨w.heap.size, 0, none⟩ (.int .i64 tp)).setCell ⟨w.heap.size, 1, none⟩ (.int .i64 ts)).setCell ⟨w.heap.size + 1, 0, none⟩ (.int .i64 yh)).setCell ⟨w.heap.size + 1, 1, none⟩ (.int .i64 yt)).setCell ⟨w.heap.size + 1, 2, none⟩ (.string ya)).setCell ⟨w.heap.size + 1, 3, none⟩ (.string yv)).setCell ⟨w.heap.size + 1, 4, none⟩ (.string yn)).setCell ⟨w.heap.size + 1, 5, none⟩ (.string yd)).setCell ⟨w.heap.size + 1, 6, none⟩ (.slice u2 l2.length c2))) := (((((((B0.out.setCell (p := ⟨w.heap.size + 1, 0, none⟩) (show w.heap.size ≤ w.heap.size + 1 by omega) _).setCell (p := ⟨w.heap.size + 1, 1, none⟩) (show w.heap.size ≤ w.heap.size + 1 by omega) _).setCell (p := ⟨w.heap.size + 1, 2, none⟩) (show w.heap.size ≤ w.heap.size + 1 by omega) _).setCell (p := ⟨w.heap.size + 1, 3, none⟩) (show w.heap.size ≤ w.heap.size + 1 by omega) _).setCell (p := ⟨w.heap.size + 1, 4, none⟩) (show w.heap.size ≤ w.heap.size + 1 by omega) _).setCell (p := ⟨w.heap.size + 1, 5, none⟩) (show w.heap.size ≤ w.heap.size + 1 by omega) _).setCell (p := ⟨w.heap.size + 1, 6, none⟩) (show w.heap.size ≤ w.heap.size + 1 by omega) _)
  have V1 : Hid (DrR (((((((((wd.setCell ⟨w.heap.size, 0, none⟩ (.int .i64 tp)).setCell ⟨w.heap.size, 1, none⟩ (.int .i64 ts)).setCell ⟨w.heap.size + 1, 0, none⟩ (.int .i64 yh)).setCell ⟨w.heap.size + 1, 1, none⟩ (.int .i64 yt)).setCell ⟨w.heap.size + 1, 2, none⟩ (.string ya)).setCell ⟨w.heap.size + 1, 3, none⟩ (.string yv)).setCell ⟨w.heap.size + 1, 4, none⟩ (.string yn)).setCell ⟨w.heap.size + 1, 5, none⟩ (.string yd)).setCell ⟨w.heap.size + 1, 6, none⟩ (.slice u2 l2.length c2)) (g + 1) u2 c2 l2) := (((((((V0.out.set 0 _ (fun b o e => by have := RV2.out.2.2.2 b o e; omega)).set 1 _ (fun b o e => by have := RV2.out.2.2.2 b o e; omega)).set 2 _ (fun b o e => by have := RV2.out.2.2.2 b o e; omega)).set 3 _ (fun b o e => by have := RV2.out.2.2.2 b o e; omega)).set 4 _ (fun b o e => by have := RV2.out.2.2.2 b o e; omega)).set 5 _ (fun b o e => by have := RV2.out.2.2.2 b o e; omega)).set 6 _ (fun b o e => by have := RV2.out.2.2.2 b o e; omega))
  have N1 : Hid (DrR (((((((((wd.setCell ⟨w.heap.size, 0, none⟩ (.int .i64 tp)).setCell ⟨w.heap.size, 1, none⟩ (.int .i64 ts)).setCell ⟨w.heap.size + 1, 0, none⟩ (.int .i64 yh)).setCell ⟨w.heap.size + 1, 1, none⟩ (.int .i64 yt)).setCell ⟨w.heap.size + 1, 2, none⟩ (.string ya)).setCell ⟨w.heap.size + 1, 3, none⟩ (.string yv)).setCell ⟨w.heap.size + 1, 4, none⟩ (.string yn)).setCell ⟨w.heap.size + 1, 5, none⟩ (.string yd)).setCell ⟨w.heap.size + 1, 6, none⟩ (.slice u2 l2.length c2)) (g + 1) un cn nx) := (((((((N0.out.set 0 _ (fun b o e => by have := RN2.out.2.2.2 b o e; omega)).set 1 _ (fun b o e => by have := RN2.out.2.2.2 b o e; omega)).set 2 _ (fun b o e => by have := RN2.out.2.2.2 b o e; omega)).set 3 _ (fun b o e => by have := RN2.out.2.2.2 b o e; omega)).set 4 _ (fun b o e => by have := RN2.out.2.2.2 b o e; omega)).set 5 _ (fun b o e => by have := RN2.out.2.2.2 b o e; omega)).set 6 _ (fun b o e => by have := RN2.out.2.2.2 b o e; omega))
  have S1 : Hid (DrS (((((((((wd.setCell ⟨w.heap.size, 0, none⟩ (.int .i64 tp)).setCell ⟨w.heap.size, 1, none⟩ (.int .i64 ts)).setCell ⟨w.heap.size + 1, 0, none⟩ (.int .i64 yh)).setCell ⟨w.heap.size + 1, 1, none⟩ (.int .i64 yt)).setCell ⟨w.heap.size + 1, 2, none⟩ (.string ya)).setCell ⟨w.heap.size + 1, 3, none⟩ (.string yv)).setCell ⟨w.heap.size + 1, 4, none⟩ (.string yn)).setCell ⟨w.heap.size + 1, 5, none⟩ (.string yd)).setCell ⟨w.heap.size + 1, 6, none⟩ (.slice u2 l2.length c2)) (g + 1) uc ⟨ch, cr, ci, cl⟩) := (((((((S0.out.set 0 _ (fun b o e => by have := RS2.out.2.2.2.2 b o e; omega)).set 1 _ (fun b o e => by have := RS2.out.2.2.2.2 b o e; omega)).set 2 _ (fun b o e => by have := RS2.out.2.2.2.2 b o e; omega)).set 3 _ (fun b o e => by have := RS2.out.2.2.2.2 b o e; omega)).set 4 _ (fun b o e => by have := RS2.out.2.2.2.2 b o e; omega)).set 5 _ (fun b o e => by have := RS2.out.2.2.2.2 b o e; omega)).set 6 _ (fun b o e => by have := RS2.out.2.2.2.2 b o e; omega))
  have p1_0 := (R0_1.out).cell 0 rfl
  have p1_1 := (R0_1.out).cell 1 rfl
  have p1_2 := (R0_1.out).cell 2 rfl
  have p1_3 := (R0_1.out).cell 3 rfl
  have p1_4 := (R0_1.out).cell 4 rfl
  have p1_5 := (R0_1.out).cell 5 rfl
  have p1_6 := (R0_1.out).cell 6 rfl
  have pf1 := fun q => (R0_1.out).frozen q
  go_simp
  clear p1_0 p1_1 p1_2 p1_3 p1_4 p1_5 p1_6 pf1
  refine hK.out _ _ (⟨⟨(K1_0.out).cell 0 rfl, (K1_0.out).cell 1 rfl⟩, ⟨(K1_1.out).cell 0 rfl, (K1_1.out).cell 1 rfl, (K1_1.out).cell 2 rfl, (K1_1.out).cell 3 rfl, (K1_1.out).cell 4 rfl, (K1_1.out).cell 5 rfl, (K1_1.out).cell 6 rfl⟩, ⟨(K1_2.out).cell 0 rfl, (K1_2.out).cell 1 rfl, (K1_2.out).cell 2 rfl, (K1_2.out).cell 3 rfl, (K1_2.out).cell 4 rfl, (K1_2.out).cell 5 rfl⟩, ⟨(K1_3.out).cell 0 rfl, (K1_3.out).cell 1 rfl, (K1_3.out).cell 2 rfl, (K1_3.out).cell 3 rfl⟩⟩) (fun hHeld => ?_)
  clear hK K
  try simp only [Act.put, List.setIfInBounds_toArray, List.set_cons_zero, List.set_cons_succ]
  refine wpAnyH_ready (rs := [8]) (by kernel_rfl) (by decide) ?_
  refine AllReadyH.cons (o := { dst := Option.none, op := Go.Op.store 27 (Go.Operand.tmp 4) (Go.Operand.tmp 45), type := 0, pos := "l11_verify.go:111", after := #[{ on := 2, ground := Go.Ground.data }, { on := 7, ground := Go.Ground.chain }, { on := 0, ground := Go.Ground.phase }, { on := 1, ground := Go.Ground.phase }, { on := 2, ground := Go.Ground.phase }, { on := 3, ground := Go.Ground.textOnly Go.Departure.lateStores }, { on := 4, ground := Go.Ground.textOnly Go.Departure.lateStores }, { on := 5, ground := Go.Ground.textOnly Go.Departure.lateStores }, { on := 6, ground := Go.Ground.phase }, { on := 7, ground := Go.Ground.phase }], guard := Option.none }) rfl (fun K hK => ?_) AllReadyH.nil
  have K2_0 : Hid (Blk (((((((((((((((wd.setCell ⟨w.heap.size, 0, none⟩ (.int .i64 tp)).setCell ⟨w.heap.size, 1, none⟩ (.int .i64 ts)).setCell ⟨w.heap.size + 1, 0, none⟩ (.int .i64 yh)).setCell ⟨w.heap.size + 1, 1, none⟩ (.int .i64 yt)).setCell ⟨w.heap.size + 1, 2, none⟩ (.string ya)).setCell ⟨w.heap.size + 1, 3, none⟩ (.string yv)).setCell ⟨w.heap.size + 1, 4, none⟩ (.string yn)).setCell ⟨w.heap.size + 1, 5, none⟩ (.string yd)).setCell ⟨w.heap.size + 1, 6, none⟩ (.slice u2 l2.length c2)).setCell ⟨w.heap.size + 2, 0, none⟩ (.int .i64 xh)).setCell ⟨w.heap.size + 2, 1, none⟩ (.int .i64 xt)).setCell ⟨w.heap.size + 2, 2, none⟩ (.string xa)).setCell ⟨w.heap.size + 2, 3, none⟩ (.string xv)).setCell ⟨w.heap.size + 2, 4, none⟩ (.string xn)).setCell ⟨w.heap.size + 2, 5, none⟩ (.string xd)) bT [.int .i64 tp, .int .i64 ts] 25) := ((((((K1_0.out.other 0 _ (by omega)).other 1 _ (by omega)).other 2 _ (by omega)).other 3 _ (by omega)).other 4 _ (by omega)).other 5 _ (by omega))
  have K2_1 : Hid (Blk (((((((((((((((wd.setCell ⟨w.heap.size, 0, none⟩ (.int .i64 tp)).setCell ⟨w.heap.size, 1, none⟩ (.int .i64 ts)).setCell ⟨w.heap.size + 1, 0, none⟩ (.int .i64 yh)).setCell ⟨w.heap.size + 1, 1, none⟩ (.int .i64 yt)).setCell ⟨w.heap.size + 1, 2, none⟩ (.string ya)).setCell ⟨w.heap.size + 1, 3, none⟩ (.string yv)).setCell ⟨w.heap.size + 1, 4, none⟩ (.string yn)).setCell ⟨w.heap.size + 1, 5, none⟩ (.string yd)).setCell ⟨w.heap.size + 1, 6, none⟩ (.slice u2 l2.length c2)).setCell ⟨w.heap.size + 2, 0, none⟩ (.int .i64 xh)).setCell ⟨w.heap.size + 2, 1, none⟩ (.int .i64 xt)).setCell ⟨w.heap.size + 2, 2, none⟩ (.string xa)).setCell ⟨w.heap.size + 2, 3, none⟩ (.string xv)).setCell ⟨w.heap.size + 2, 4, none⟩ (.string xn)).setCell ⟨w.heap.size + 2, 5, none⟩ (.string xd)) bA [.int .i64 yh, .int .i64 yt, .string ya, .string yv, .string yn, .string yd, .slice u2 l2.length c2] 30) := ((((((K1_1.out.other 0 _ (by omega)).other 1 _ (by omega)).other 2 _ (by omega)).other 3 _ (by omega)).other 4 _ (by omega)).other 5 _ (by omega))
  have K2_2 : Hid (Blk (((((((((((((((wd.setCell ⟨w.heap.size, 0, none⟩ (.int .i64 tp)).setCell ⟨w.heap.size, 1, none⟩ (.int .i64 ts)).setCell ⟨w.heap.size + 1, 0, none⟩ (.int .i64 yh)).setCell ⟨w.heap.size + 1, 1, none⟩ (.int .i64 yt)).setCell ⟨w.heap.size + 1, 2, none⟩ (.string ya)).setCell ⟨w.heap.size + 1, 3, none⟩ (.string yv)).setCell ⟨w.heap.size + 1, 4, none⟩ (.string yn)).setCell ⟨w.heap.size + 1, 5, none⟩ (.string yd)).setCell ⟨w.heap.size + 1, 6, none⟩ (.slice u2 l2.length c2)).setCell ⟨w.heap.size + 2, 0, none⟩ (.int .i64 xh)).setCell ⟨w.heap.size + 2, 1, none⟩ (.int .i64 xt)).setCell ⟨w.heap.size + 2, 2, none⟩ (.string xa)).setCell ⟨w.heap.size + 2, 3, none⟩ (.string xv)).setCell ⟨w.heap.size + 2, 4, none⟩ (.string xn)).setCell ⟨w.heap.size + 2, 5, none⟩ (.string xd)) bX [.int .i64 xh, .int .i64 xt, .string xa, .string xv, .string xn, .string xd] 27) := ((((((K1_2.out.other 0 _ (by omega)).other 1 _ (by omega)).other 2 _ (by omega)).other 3 _ (by omega)).other 4 _ (by omega)).other 5 _ (by omega))
  have K2_3 : Hid (Blk (((((((((((((((wd.setCell ⟨w.heap.size, 0, none⟩ (.int .i64 tp)).setCell ⟨w.heap.size, 1, none⟩ (.int .i64 ts)).setCell ⟨w.heap.size + 1, 0, none⟩ (.int .i64 yh)).setCell ⟨w.heap.size + 1, 1, none⟩ (.int .i64 yt)).setCell ⟨w.heap.size + 1, 2, none⟩ (.string ya)).setCell ⟨w.heap.size + 1, 3, none⟩ (.string yv)).setCell ⟨w.heap.size + 1, 4, none⟩ (.string yn)).setCell ⟨w.heap.size + 1, 5, none⟩ (.string yd)).setCell ⟨w.heap.size + 1, 6, none⟩ (.slice u2 l2.length c2)).setCell ⟨w.heap.size + 2, 0, none⟩ (.int .i64 xh)).setCell ⟨w.heap.size + 2, 1, none⟩ (.int .i64 xt)).setCell ⟨w.heap.size + 2, 2, none⟩ (.string xa)).setCell ⟨w.heap.size + 2, 3, none⟩ (.string xv)).setCell ⟨w.heap.size + 2, 4, none⟩ (.string xn)).setCell ⟨w.heap.size + 2, 5, none⟩ (.string xd)) (bX + 1) [.int .i64 ch, .int .i64 cr, .string ci, .slice uc cl.length cc] 33) := ((((((K1_3.out.other 0 _ (by omega)).other 1 _ (by omega)).other 2 _ (by omega)).other 3 _ (by omega)).other 4 _ (by omega)).other 5 _ (by omega))
  have R2_0 : Hid (Blk (((((((((((((((wd.setCell ⟨w.heap.size, 0, none⟩ (.int .i64 tp)).setCell ⟨w.heap.size, 1, none⟩ (.int .i64 ts)).setCell ⟨w.heap.size + 1, 0, none⟩ (.int .i64 yh)).setCell ⟨w.heap.size + 1, 1, none⟩ (.int .i64 yt)).setCell ⟨w.heap.size + 1, 2, none⟩ (.string ya)).setCell ⟨w.heap.size + 1, 3, none⟩ (.string yv)).setCell ⟨w.heap.size + 1, 4, none⟩ (.string yn)).setCell ⟨w.heap.size + 1, 5, none⟩ (.string yd)).setCell ⟨w.heap.size + 1, 6, none⟩ (.slice u2 l2.length c2)).setCell ⟨w.heap.size + 2, 0, none⟩ (.int .i64 xh)).setCell ⟨w.heap.size + 2, 1, none⟩ (.int .i64 xt)).setCell ⟨w.heap.size + 2, 2, none⟩ (.string xa)).setCell ⟨w.heap.size + 2, 3, none⟩ (.string xv)).setCell ⟨w.heap.size + 2, 4, none⟩ (.string xn)).setCell ⟨w.heap.size + 2, 5, none⟩ (.string xd)) (w.heap.size) [.int .i64 tp, .int .i64 ts] 25) := ((((((R1_0.out.other 0 _ (by omega)).other 1 _ (by omega)).other 2 _ (by omega)).other 3 _ (by omega)).other 4 _ (by omega)).other 5 _ (by omega))
  have R2_1 : Hid (Blk (((((((((((((((wd.setCell ⟨w.heap.size, 0, none⟩ (.int .i64 tp)).setCell ⟨w.heap.size, 1, none⟩ (.int .i64 ts)).setCell ⟨w.heap.size + 1, 0, none⟩ (.int .i64 yh)).setCell ⟨w.heap.size + 1, 1, none⟩ (.int .i64 yt)).setCell ⟨w.heap.size + 1, 2, none⟩ (.string ya)).setCell ⟨w.heap.size + 1, 3, none⟩ (.string yv)).setCell ⟨w.heap.size + 1, 4, none⟩ (.string yn)).setCell ⟨w.heap.size + 1, 5, none⟩ (.string yd)).setCell ⟨w.heap.size + 1, 6, none⟩ (.slice u2 l2.length c2)).setCell ⟨w.heap.size + 2, 0, none⟩ (.int .i64 xh)).setCell ⟨w.heap.size + 2, 1, none⟩ (.int .i64 xt)).setCell ⟨w.heap.size + 2, 2, none⟩ (.string xa)).setCell ⟨w.heap.size + 2, 3, none⟩ (.string xv)).setCell ⟨w.heap.size + 2, 4, none⟩ (.string xn)).setCell ⟨w.heap.size + 2, 5, none⟩ (.string xd)) (w.heap.size + 1) [.int .i64 yh, .int .i64 yt, .string ya, .string yv, .string yn, .string yd, .slice u2 l2.length c2] 30) := ((((((R1_1.out.other 0 _ (by omega)).other 1 _ (by omega)).other 2 _ (by omega)).other 3 _ (by omega)).other 4 _ (by omega)).other 5 _ (by omega))
  have R2_2 : Hid (Blk (((((((((((((((wd.setCell ⟨w.heap.size, 0, none⟩ (.int .i64 tp)).setCell ⟨w.heap.size, 1, none⟩ (.int .i64 ts)).setCell ⟨w.heap.size + 1, 0, none⟩ (.int .i64 yh)).setCell ⟨w.heap.size + 1, 1, none⟩ (.int .i64 yt)).setCell ⟨w.heap.size + 1, 2, none⟩ (.string ya)).setCell ⟨w.heap.size + 1, 3, none⟩ (.string yv)).setCell ⟨w.heap.size + 1, 4, none⟩ (.string yn)).setCell ⟨w.heap.size + 1, 5, none⟩ (.string yd)).setCell ⟨w.heap.size + 1, 6, none⟩ (.slice u2 l2.length c2)).setCell ⟨w.heap.size + 2, 0, none⟩ (.int .i64 xh)).setCell ⟨w.heap.size + 2, 1, none⟩ (.int .i64 xt)).setCell ⟨w.heap.size + 2, 2, none⟩ (.string xa)).setCell ⟨w.heap.size + 2, 3, none⟩ (.string xv)).setCell ⟨w.heap.size + 2, 4, none⟩ (.string xn)).setCell ⟨w.heap.size + 2, 5, none⟩ (.string xd)) (w.heap.size + 2) [.int .i64 xh, .int .i64 xt, .string xa, .string xv, .string xn, .string xd] 27) := ((((((R1_2.out.set 0 _).set 1 _).set 2 _).set 3 _).set 4 _).set 5 _)
  have R2_3 : Hid (Blk (((((((((((((((wd.setCell ⟨w.heap.size, 0, none⟩ (.int .i64 tp)).setCell ⟨w.heap.size, 1, none⟩ (.int .i64 ts)).setCell ⟨w.heap.size + 1, 0, none⟩ (.int .i64 yh)).setCell ⟨w.heap.size + 1, 1, none⟩ (.int .i64 yt)).setCell ⟨w.heap.size + 1, 2, none⟩ (.string ya)).setCell ⟨w.heap.size + 1, 3, none⟩ (.string yv)).setCell ⟨w.heap.size + 1, 4, none⟩ (.string yn)).setCell ⟨w.heap.size + 1, 5, none⟩ (.string yd)).setCell ⟨w.heap.size + 1, 6, none⟩ (.slice u2 l2.length c2)).setCell ⟨w.heap.size + 2, 0, none⟩ (.int .i64 xh)).setCell ⟨w.heap.size + 2, 1, none⟩ (.int .i64 xt)).setCell ⟨w.heap.size + 2, 2, none⟩ (.string xa)).setCell ⟨w.heap.size + 2, 3, none⟩ (.string xv)).setCell ⟨w.heap.size + 2, 4, none⟩ (.string xn)).setCell ⟨w.heap.size + 2, 5, none⟩ (.string xd)) (w.heap.size + 3) [.int .i64 0, .int .i64 0, .string ⟨#[]⟩, .slice none 0 0] 33) := ((((((R1_3.out.other 0 _ (by omega)).other 1 _ (by omega)).other 2 _ (by omega)).other 3 _ (by omega)).other 4 _ (by omega)).other 5 _ (by omega))
  have B2 : Hid (Below w.heap.size w (((((((((((((((wd.setCell ⟨w.heap.size, 0, none⟩ (.int .i64 tp)).setCell ⟨w.heap.size, 1, none⟩ (.int .i64 ts)).setCell ⟨w.heap.size + 1, 0, none⟩ (.int .i64 yh)).setCell ⟨w.heap.size + 1, 1, none⟩ (.int .i64 yt)).setCell ⟨w.heap.size + 1, 2, none⟩ (.string ya)).setCell ⟨w.heap.size + 1, 3, none⟩ (.string yv)).setCell ⟨w.heap.size + 1, 4, none⟩ (.string yn)).setCell ⟨w.heap.size + 1, 5, none⟩ (.string yd)).setCell ⟨w.heap.size + 1, 6, none⟩ (.slice u2 l2.length c2)).setCell ⟨w.heap.size + 2, 0, none⟩ (.int .i64 xh)).setCell ⟨w.heap.size + 2, 1, none⟩ (.int .i64 xt)).setCell ⟨w.heap.size + 2, 2, none⟩ (.string xa)).setCell ⟨w.heap.size + 2, 3, none⟩ (.string xv)).setCell ⟨w.heap.size + 2, 4, none⟩ (.string xn)).setCell ⟨w.heap.size + 2, 5, none⟩ (.string xd))) := ((((((B1.out.setCell (p := ⟨w.heap.size + 2, 0, none⟩) (show w.heap.size ≤ w.heap.size + 2 by omega) _).setCell (p := ⟨w.heap.size + 2, 1, none⟩) (show w.heap.size ≤ w.heap.size + 2 by omega) _).setCell (p := ⟨w.heap.size + 2, 2, none⟩) (show w.heap.size ≤ w.heap.size + 2 by omega) _).setCell (p := ⟨w.heap.size + 2, 3, none⟩) (show w.heap.size ≤ w.heap.size + 2 by omega) _).setCell (p := ⟨w.heap.size + 2, 4, none⟩) (show w.heap.size ≤ w.heap.size + 2 by omega) _).setCell (p := ⟨w.heap.size + 2, 5, none⟩) (show w.heap.size ≤ w.heap.size + 2 by omega) _)
  have V2 : Hid (DrR (((((((((((((((wd.setCell ⟨w.heap.size, 0, none⟩ (.int .i64 tp)).setCell ⟨w.heap.size, 1, none⟩ (.int .i64 ts)).setCell ⟨w.heap.size + 1, 0, none⟩ (.int .i64 yh)).setCell ⟨w.heap.size + 1, 1, none⟩ (.int .i64 yt)).setCell ⟨w.heap.size + 1, 2, none⟩ (.string ya)).setCell ⟨w.heap.size + 1, 3, none⟩ (.string yv)).setCell ⟨w.heap.size + 1, 4, none⟩ (.string yn)).setCell ⟨w.heap.size + 1, 5, none⟩ (.string yd)).setCell ⟨w.heap.size + 1, 6, none⟩ (.slice u2 l2.length c2)).setCell ⟨w.heap.size + 2, 0, none⟩ (.int .i64 xh)).setCell ⟨w.heap.size + 2, 1, none⟩ (.int .i64 xt)).setCell ⟨w.heap.size + 2, 2, none⟩ (.string xa)).setCell ⟨w.heap.size + 2, 3, none⟩ (.string xv)).setCell ⟨w.heap.size + 2, 4, none⟩ (.string xn)).setCell ⟨w.heap.size + 2, 5, none⟩ (.string xd)) (g + 1) u2 c2 l2) := ((((((V1.out.set 0 _ (fun b o e => by have := RV2.out.2.2.2 b o e; omega)).set 1 _ (fun b o e => by have := RV2.out.2.2.2 b o e; omega)).set 2 _ (fun b o e => by have := RV2.out.2.2.2 b o e; omega)).set 3 _ (fun b o e => by have := RV2.out.2.2.2 b o e; omega)).set 4 _ (fun b o e => by have := RV2.out.2.2.2 b o e; omega)).set 5 _ (fun b o e => by have := RV2.out.2.2.2 b o e; omega))
  have N2 : Hid (DrR (((((((((((((((wd.setCell ⟨w.heap.size, 0, none⟩ (.int .i64 tp)).setCell ⟨w.heap.size, 1, none⟩ (.int .i64 ts)).setCell ⟨w.heap.size + 1, 0, none⟩ (.int .i64 yh)).setCell ⟨w.heap.size + 1, 1, none⟩ (.int .i64 yt)).setCell ⟨w.heap.size + 1, 2, none⟩ (.string ya)).setCell ⟨w.heap.size + 1, 3, none⟩ (.string yv)).setCell ⟨w.heap.size + 1, 4, none⟩ (.string yn)).setCell ⟨w.heap.size + 1, 5, none⟩ (.string yd)).setCell ⟨w.heap.size + 1, 6, none⟩ (.slice u2 l2.length c2)).setCell ⟨w.heap.size + 2, 0, none⟩ (.int .i64 xh)).setCell ⟨w.heap.size + 2, 1, none⟩ (.int .i64 xt)).setCell ⟨w.heap.size + 2, 2, none⟩ (.string xa)).setCell ⟨w.heap.size + 2, 3, none⟩ (.string xv)).setCell ⟨w.heap.size + 2, 4, none⟩ (.string xn)).setCell ⟨w.heap.size + 2, 5, none⟩ (.string xd)) (g + 1) un cn nx) := ((((((N1.out.set 0 _ (fun b o e => by have := RN2.out.2.2.2 b o e; omega)).set 1 _ (fun b o e => by have := RN2.out.2.2.2 b o e; omega)).set 2 _ (fun b o e => by have := RN2.out.2.2.2 b o e; omega)).set 3 _ (fun b o e => by have := RN2.out.2.2.2 b o e; omega)).set 4 _ (fun b o e => by have := RN2.out.2.2.2 b o e; omega)).set 5 _ (fun b o e => by have := RN2.out.2.2.2 b o e; omega))
  have S2 : Hid (DrS (((((((((((((((wd.setCell ⟨w.heap.size, 0, none⟩ (.int .i64 tp)).setCell ⟨w.heap.size, 1, none⟩ (.int .i64 ts)).setCell ⟨w.heap.size + 1, 0, none⟩ (.int .i64 yh)).setCell ⟨w.heap.size + 1, 1, none⟩ (.int .i64 yt)).setCell ⟨w.heap.size + 1, 2, none⟩ (.string ya)).setCell ⟨w.heap.size + 1, 3, none⟩ (.string yv)).setCell ⟨w.heap.size + 1, 4, none⟩ (.string yn)).setCell ⟨w.heap.size + 1, 5, none⟩ (.string yd)).setCell ⟨w.heap.size + 1, 6, none⟩ (.slice u2 l2.length c2)).setCell ⟨w.heap.size + 2, 0, none⟩ (.int .i64 xh)).setCell ⟨w.heap.size + 2, 1, none⟩ (.int .i64 xt)).setCell ⟨w.heap.size + 2, 2, none⟩ (.string xa)).setCell ⟨w.heap.size + 2, 3, none⟩ (.string xv)).setCell ⟨w.heap.size + 2, 4, none⟩ (.string xn)).setCell ⟨w.heap.size + 2, 5, none⟩ (.string xd)) (g + 1) uc ⟨ch, cr, ci, cl⟩) := ((((((S1.out.set 0 _ (fun b o e => by have := RS2.out.2.2.2.2 b o e; omega)).set 1 _ (fun b o e => by have := RS2.out.2.2.2.2 b o e; omega)).set 2 _ (fun b o e => by have := RS2.out.2.2.2.2 b o e; omega)).set 3 _ (fun b o e => by have := RS2.out.2.2.2.2 b o e; omega)).set 4 _ (fun b o e => by have := RS2.out.2.2.2.2 b o e; omega)).set 5 _ (fun b o e => by have := RS2.out.2.2.2.2 b o e; omega))
  have p2_0 := (R1_2.out).cell 0 rfl
  have p2_1 := (R1_2.out).cell 1 rfl
  have p2_2 := (R1_2.out).cell 2 rfl
  have p2_3 := (R1_2.out).cell 3 rfl
  have p2_4 := (R1_2.out).cell 4 rfl
  have p2_5 := (R1_2.out).cell 5 rfl
  have pf2 := fun q => (R1_2.out).frozen q
  go_simp
  clear p2_0 p2_1 p2_2 p2_3 p2_4 p2_5 pf2
  refine hK.out _ _ (⟨⟨(K2_0.out).cell 0 rfl, (K2_0.out).cell 1 rfl⟩, ⟨(K2_1.out).cell 0 rfl, (K2_1.out).cell 1 rfl, (K2_1.out).cell 2 rfl, (K2_1.out).cell 3 rfl, (K2_1.out).cell 4 rfl, (K2_1.out).cell 5 rfl, (K2_1.out).cell 6 rfl⟩, ⟨(K2_2.out).cell 0 rfl, (K2_2.out).cell 1 rfl, (K2_2.out).cell 2 rfl, (K2_2.out).cell 3 rfl, (K2_2.out).cell 4 rfl, (K2_2.out).cell 5 rfl⟩, ⟨(K2_3.out).cell 0 rfl, (K2_3.out).cell 1 rfl, (K2_3.out).cell 2 rfl, (K2_3.out).cell 3 rfl⟩⟩) (fun hHeld => ?_)
  clear hK K
  try simp only [Act.put, List.setIfInBounds_toArray, List.set_cons_zero, List.set_cons_succ]
  refine wpAnyH_take (i := 9) (oi := { dst := Option.some 5, op := Go.Op.assign (Go.Operand.tmp 46), type := 28, pos := "l11_verify.go:111", after := #[{ on := 3, ground := Go.Ground.data }, { on := 8, ground := Go.Ground.chain }, { on := 0, ground := Go.Ground.phase }, { on := 1, ground := Go.Ground.phase }, { on := 2, ground := Go.Ground.phase }, { on := 3, ground := Go.Ground.phase }, { on := 4, ground := Go.Ground.textOnly Go.Departure.lateStores }, { on := 5, ground := Go.Ground.textOnly Go.Departure.lateStores }, { on := 6, ground := Go.Ground.phase }, { on := 7, ground := Go.Ground.phase }, { on := 8, ground := Go.Ground.phase }], guard := Option.none }) (v := ?_) rfl (by kernel_rfl) (by kernel_rfl) (by kernel_rfl) (fun _ _ _ h => h) (Or.inl ⟨by rfl, ?_⟩) hHeld ?_
  rotate_left
  · intro w hSw
    try dsimp only at hSw
    go_simp
    try (with_reducible rfl)
  simp only [Act.put, List.setIfInBounds_toArray, List.set_cons_zero, List.set_cons_succ]
  refine wpAnyH_ready (rs := [10]) (by kernel_rfl) (by decide) ?_
  refine AllReadyH.cons (o := { dst := Option.none, op := Go.Op.store 33 (Go.Operand.tmp 6) (Go.Operand.tmp 47), type := 0, pos := "l11_verify.go:111", after := #[{ on := 4, ground := Go.Ground.data }, { on := 9, ground := Go.Ground.chain }, { on := 0, ground := Go.Ground.phase }, { on := 1, ground := Go.Ground.phase }, { on := 2, ground := Go.Ground.phase }, { on := 3, ground := Go.Ground.phase }, { on := 4, ground := Go.Ground.phase }, { on := 5, ground := Go.Ground.textOnly Go.Departure.lateStores }, { on := 6, ground := Go.Ground.phase }, { on := 7, ground := Go.Ground.phase }, { on := 8, ground := Go.Ground.phase }, { on := 9, ground := Go.Ground.phase }], guard := Option.none }) rfl (fun K hK => ?_) AllReadyH.nil
  have K3_0 : Hid (Blk (((((((((((((((((((wd.setCell ⟨w.heap.size, 0, none⟩ (.int .i64 tp)).setCell ⟨w.heap.size, 1, none⟩ (.int .i64 ts)).setCell ⟨w.heap.size + 1, 0, none⟩ (.int .i64 yh)).setCell ⟨w.heap.size + 1, 1, none⟩ (.int .i64 yt)).setCell ⟨w.heap.size + 1, 2, none⟩ (.string ya)).setCell ⟨w.heap.size + 1, 3, none⟩ (.string yv)).setCell ⟨w.heap.size + 1, 4, none⟩ (.string yn)).setCell ⟨w.heap.size + 1, 5, none⟩ (.string yd)).setCell ⟨w.heap.size + 1, 6, none⟩ (.slice u2 l2.length c2)).setCell ⟨w.heap.size + 2, 0, none⟩ (.int .i64 xh)).setCell ⟨w.heap.size + 2, 1, none⟩ (.int .i64 xt)).setCell ⟨w.heap.size + 2, 2, none⟩ (.string xa)).setCell ⟨w.heap.size + 2, 3, none⟩ (.string xv)).setCell ⟨w.heap.size + 2, 4, none⟩ (.string xn)).setCell ⟨w.heap.size + 2, 5, none⟩ (.string xd)).setCell ⟨w.heap.size + 3, 0, none⟩ (.int .i64 ch)).setCell ⟨w.heap.size + 3, 1, none⟩ (.int .i64 cr)).setCell ⟨w.heap.size + 3, 2, none⟩ (.string ci)).setCell ⟨w.heap.size + 3, 3, none⟩ (.slice uc cl.length cc)) bT [.int .i64 tp, .int .i64 ts] 25) := ((((K2_0.out.other 0 _ (by omega)).other 1 _ (by omega)).other 2 _ (by omega)).other 3 _ (by omega))
  have K3_1 : Hid (Blk (((((((((((((((((((wd.setCell ⟨w.heap.size, 0, none⟩ (.int .i64 tp)).setCell ⟨w.heap.size, 1, none⟩ (.int .i64 ts)).setCell ⟨w.heap.size + 1, 0, none⟩ (.int .i64 yh)).setCell ⟨w.heap.size + 1, 1, none⟩ (.int .i64 yt)).setCell ⟨w.heap.size + 1, 2, none⟩ (.string ya)).setCell ⟨w.heap.size + 1, 3, none⟩ (.string yv)).setCell ⟨w.heap.size + 1, 4, none⟩ (.string yn)).setCell ⟨w.heap.size + 1, 5, none⟩ (.string yd)).setCell ⟨w.heap.size + 1, 6, none⟩ (.slice u2 l2.length c2)).setCell ⟨w.heap.size + 2, 0, none⟩ (.int .i64 xh)).setCell ⟨w.heap.size + 2, 1, none⟩ (.int .i64 xt)).setCell ⟨w.heap.size + 2, 2, none⟩ (.string xa)).setCell ⟨w.heap.size + 2, 3, none⟩ (.string xv)).setCell ⟨w.heap.size + 2, 4, none⟩ (.string xn)).setCell ⟨w.heap.size + 2, 5, none⟩ (.string xd)).setCell ⟨w.heap.size + 3, 0, none⟩ (.int .i64 ch)).setCell ⟨w.heap.size + 3, 1, none⟩ (.int .i64 cr)).setCell ⟨w.heap.size + 3, 2, none⟩ (.string ci)).setCell ⟨w.heap.size + 3, 3, none⟩ (.slice uc cl.length cc)) bA [.int .i64 yh, .int .i64 yt, .string ya, .string yv, .string yn, .string yd, .slice u2 l2.length c2] 30) := ((((K2_1.out.other 0 _ (by omega)).other 1 _ (by omega)).other 2 _ (by omega)).other 3 _ (by omega))
  have K3_2 : Hid (Blk (((((((((((((((((((wd.setCell ⟨w.heap.size, 0, none⟩ (.int .i64 tp)).setCell ⟨w.heap.size, 1, none⟩ (.int .i64 ts)).setCell ⟨w.heap.size + 1, 0, none⟩ (.int .i64 yh)).setCell ⟨w.heap.size + 1, 1, none⟩ (.int .i64 yt)).setCell ⟨w.heap.size + 1, 2, none⟩ (.string ya)).setCell ⟨w.heap.size + 1, 3, none⟩ (.string yv)).setCell ⟨w.heap.size + 1, 4, none⟩ (.string yn)).setCell ⟨w.heap.size + 1, 5, none⟩ (.string yd)).setCell ⟨w.heap.size + 1, 6, none⟩ (.slice u2 l2.length c2)).setCell ⟨w.heap.size + 2, 0, none⟩ (.int .i64 xh)).setCell ⟨w.heap.size + 2, 1, none⟩ (.int .i64 xt)).setCell ⟨w.heap.size + 2, 2, none⟩ (.string xa)).setCell ⟨w.heap.size + 2, 3, none⟩ (.string xv)).setCell ⟨w.heap.size + 2, 4, none⟩ (.string xn)).setCell ⟨w.heap.size + 2, 5, none⟩ (.string xd)).setCell ⟨w.heap.size + 3, 0, none⟩ (.int .i64 ch)).setCell ⟨w.heap.size + 3, 1, none⟩ (.int .i64 cr)).setCell ⟨w.heap.size + 3, 2, none⟩ (.string ci)).setCell ⟨w.heap.size + 3, 3, none⟩ (.slice uc cl.length cc)) bX [.int .i64 xh, .int .i64 xt, .string xa, .string xv, .string xn, .string xd] 27) := ((((K2_2.out.other 0 _ (by omega)).other 1 _ (by omega)).other 2 _ (by omega)).other 3 _ (by omega))
  have K3_3 : Hid (Blk (((((((((((((((((((wd.setCell ⟨w.heap.size, 0, none⟩ (.int .i64 tp)).setCell ⟨w.heap.size, 1, none⟩ (.int .i64 ts)).setCell ⟨w.heap.size + 1, 0, none⟩ (.int .i64 yh)).setCell ⟨w.heap.size + 1, 1, none⟩ (.int .i64 yt)).setCell ⟨w.heap.size + 1, 2, none⟩ (.string ya)).setCell ⟨w.heap.size + 1, 3, none⟩ (.string yv)).setCell ⟨w.heap.size + 1, 4, none⟩ (.string yn)).setCell ⟨w.heap.size + 1, 5, none⟩ (.string yd)).setCell ⟨w.heap.size + 1, 6, none⟩ (.slice u2 l2.length c2)).setCell ⟨w.heap.size + 2, 0, none⟩ (.int .i64 xh)).setCell ⟨w.heap.size + 2, 1, none⟩ (.int .i64 xt)).setCell ⟨w.heap.size + 2, 2, none⟩ (.string xa)).setCell ⟨w.heap.size + 2, 3, none⟩ (.string xv)).setCell ⟨w.heap.size + 2, 4, none⟩ (.string xn)).setCell ⟨w.heap.size + 2, 5, none⟩ (.string xd)).setCell ⟨w.heap.size + 3, 0, none⟩ (.int .i64 ch)).setCell ⟨w.heap.size + 3, 1, none⟩ (.int .i64 cr)).setCell ⟨w.heap.size + 3, 2, none⟩ (.string ci)).setCell ⟨w.heap.size + 3, 3, none⟩ (.slice uc cl.length cc)) (bX + 1) [.int .i64 ch, .int .i64 cr, .string ci, .slice uc cl.length cc] 33) := ((((K2_3.out.other 0 _ (by omega)).other 1 _ (by omega)).other 2 _ (by omega)).other 3 _ (by omega))
  have R3_0 : Hid (Blk (((((((((((((((((((wd.setCell ⟨w.heap.size, 0, none⟩ (.int .i64 tp)).setCell ⟨w.heap.size, 1, none⟩ (.int .i64 ts)).setCell ⟨w.heap.size + 1, 0, none⟩ (.int .i64 yh)).setCell ⟨w.heap.size + 1, 1, none⟩ (.int .i64 yt)).setCell ⟨w.heap.size + 1, 2, none⟩ (.string ya)).setCell ⟨w.heap.size + 1, 3, none⟩ (.string yv)).setCell ⟨w.heap.size + 1, 4, none⟩ (.string yn)).setCell ⟨w.heap.size + 1, 5, none⟩ (.string yd)).setCell ⟨w.heap.size + 1, 6, none⟩ (.slice u2 l2.length c2)).setCell ⟨w.heap.size + 2, 0, none⟩ (.int .i64 xh)).setCell ⟨w.heap.size + 2, 1, none⟩ (.int .i64 xt)).setCell ⟨w.heap.size + 2, 2, none⟩ (.string xa)).setCell ⟨w.heap.size + 2, 3, none⟩ (.string xv)).setCell ⟨w.heap.size + 2, 4, none⟩ (.string xn)).setCell ⟨w.heap.size + 2, 5, none⟩ (.string xd)).setCell ⟨w.heap.size + 3, 0, none⟩ (.int .i64 ch)).setCell ⟨w.heap.size + 3, 1, none⟩ (.int .i64 cr)).setCell ⟨w.heap.size + 3, 2, none⟩ (.string ci)).setCell ⟨w.heap.size + 3, 3, none⟩ (.slice uc cl.length cc)) (w.heap.size) [.int .i64 tp, .int .i64 ts] 25) := ((((R2_0.out.other 0 _ (by omega)).other 1 _ (by omega)).other 2 _ (by omega)).other 3 _ (by omega))
  have R3_1 : Hid (Blk (((((((((((((((((((wd.setCell ⟨w.heap.size, 0, none⟩ (.int .i64 tp)).setCell ⟨w.heap.size, 1, none⟩ (.int .i64 ts)).setCell ⟨w.heap.size + 1, 0, none⟩ (.int .i64 yh)).setCell ⟨w.heap.size + 1, 1, none⟩ (.int .i64 yt)).setCell ⟨w.heap.size + 1, 2, none⟩ (.string ya)).setCell ⟨w.heap.size + 1, 3, none⟩ (.string yv)).setCell ⟨w.heap.size + 1, 4, none⟩ (.string yn)).setCell ⟨w.heap.size + 1, 5, none⟩ (.string yd)).setCell ⟨w.heap.size + 1, 6, none⟩ (.slice u2 l2.length c2)).setCell ⟨w.heap.size + 2, 0, none⟩ (.int .i64 xh)).setCell ⟨w.heap.size + 2, 1, none⟩ (.int .i64 xt)).setCell ⟨w.heap.size + 2, 2, none⟩ (.string xa)).setCell ⟨w.heap.size + 2, 3, none⟩ (.string xv)).setCell ⟨w.heap.size + 2, 4, none⟩ (.string xn)).setCell ⟨w.heap.size + 2, 5, none⟩ (.string xd)).setCell ⟨w.heap.size + 3, 0, none⟩ (.int .i64 ch)).setCell ⟨w.heap.size + 3, 1, none⟩ (.int .i64 cr)).setCell ⟨w.heap.size + 3, 2, none⟩ (.string ci)).setCell ⟨w.heap.size + 3, 3, none⟩ (.slice uc cl.length cc)) (w.heap.size + 1) [.int .i64 yh, .int .i64 yt, .string ya, .string yv, .string yn, .string yd, .slice u2 l2.length c2] 30) := ((((R2_1.out.other 0 _ (by omega)).other 1 _ (by omega)).other 2 _ (by omega)).other 3 _ (by omega))
  have R3_2 : Hid (Blk (((((((((((((((((((wd.setCell ⟨w.heap.size, 0, none⟩ (.int .i64 tp)).setCell ⟨w.heap.size, 1, none⟩ (.int .i64 ts)).setCell ⟨w.heap.size + 1, 0, none⟩ (.int .i64 yh)).setCell ⟨w.heap.size + 1, 1, none⟩ (.int .i64 yt)).setCell ⟨w.heap.size + 1, 2, none⟩ (.string ya)).setCell ⟨w.heap.size + 1, 3, none⟩ (.string yv)).setCell ⟨w.heap.size + 1, 4, none⟩ (.string yn)).setCell ⟨w.heap.size + 1, 5, none⟩ (.string yd)).setCell ⟨w.heap.size + 1, 6, none⟩ (.slice u2 l2.length c2)).setCell ⟨w.heap.size + 2, 0, none⟩ (.int .i64 xh)).setCell ⟨w.heap.size + 2, 1, none⟩ (.int .i64 xt)).setCell ⟨w.heap.size + 2, 2, none⟩ (.string xa)).setCell ⟨w.heap.size + 2, 3, none⟩ (.string xv)).setCell ⟨w.heap.size + 2, 4, none⟩ (.string xn)).setCell ⟨w.heap.size + 2, 5, none⟩ (.string xd)).setCell ⟨w.heap.size + 3, 0, none⟩ (.int .i64 ch)).setCell ⟨w.heap.size + 3, 1, none⟩ (.int .i64 cr)).setCell ⟨w.heap.size + 3, 2, none⟩ (.string ci)).setCell ⟨w.heap.size + 3, 3, none⟩ (.slice uc cl.length cc)) (w.heap.size + 2) [.int .i64 xh, .int .i64 xt, .string xa, .string xv, .string xn, .string xd] 27) := ((((R2_2.out.other 0 _ (by omega)).other 1 _ (by omega)).other 2 _ (by omega)).other 3 _ (by omega))
  have R3_3 : Hid (Blk (((((((((((((((((((wd.setCell ⟨w.heap.size, 0, none⟩ (.int .i64 tp)).setCell ⟨w.heap.size, 1, none⟩ (.int .i64 ts)).setCell ⟨w.heap.size + 1, 0, none⟩ (.int .i64 yh)).setCell ⟨w.heap.size + 1, 1, none⟩ (.int .i64 yt)).setCell ⟨w.heap.size + 1, 2, none⟩ (.string ya)).setCell ⟨w.heap.size + 1, 3, none⟩ (.string yv)).setCell ⟨w.heap.size + 1, 4, none⟩ (.string yn)).setCell ⟨w.heap.size + 1, 5, none⟩ (.string yd)).setCell ⟨w.heap.size + 1, 6, none⟩ (.slice u2 l2.length c2)).setCell ⟨w.heap.size + 2, 0, none⟩ (.int .i64 xh)).setCell ⟨w.heap.size + 2, 1, none⟩ (.int .i64 xt)).setCell ⟨w.heap.size + 2, 2, none⟩ (.string xa)).setCell ⟨w.heap.size + 2, 3, none⟩ (.string xv)).setCell ⟨w.heap.size + 2, 4, none⟩ (.string xn)).setCell ⟨w.heap.size + 2, 5, none⟩ (.string xd)).setCell ⟨w.heap.size + 3, 0, none⟩ (.int .i64 ch)).setCell ⟨w.heap.size + 3, 1, none⟩ (.int .i64 cr)).setCell ⟨w.heap.size + 3, 2, none⟩ (.string ci)).setCell ⟨w.heap.size + 3, 3, none⟩ (.slice uc cl.length cc)) (w.heap.size + 3) [.int .i64 ch, .int .i64 cr, .string ci, .slice uc cl.length cc] 33) := ((((R2_3.out.set 0 _).set 1 _).set 2 _).set 3 _)
  have B3 : Hid (Below w.heap.size w (((((((((((((((((((wd.setCell ⟨w.heap.size, 0, none⟩ (.int .i64 tp)).setCell ⟨w.heap.size, 1, none⟩ (.int .i64 ts)).setCell ⟨w.heap.size + 1, 0, none⟩ (.int .i64 yh)).setCell ⟨w.heap.size + 1, 1, none⟩ (.int .i64 yt)).setCell ⟨w.heap.size + 1, 2, none⟩ (.string ya)).setCell ⟨w.heap.size + 1, 3, none⟩ (.string yv)).setCell ⟨w.heap.size + 1, 4, none⟩ (.string yn)).setCell ⟨w.heap.size + 1, 5, none⟩ (.string yd)).setCell ⟨w.heap.size + 1, 6, none⟩ (.slice u2 l2.length c2)).setCell ⟨w.heap.size + 2, 0, none⟩ (.int .i64 xh)).setCell ⟨w.heap.size + 2, 1, none⟩ (.int .i64 xt)).setCell ⟨w.heap.size + 2, 2, none⟩ (.string xa)).setCell ⟨w.heap.size + 2, 3, none⟩ (.string xv)).setCell ⟨w.heap.size + 2, 4, none⟩ (.string xn)).setCell ⟨w.heap.size + 2, 5, none⟩ (.string xd)).setCell ⟨w.heap.size + 3, 0, none⟩ (.int .i64 ch)).setCell ⟨w.heap.size + 3, 1, none⟩ (.int .i64 cr)).setCell ⟨w.heap.size + 3, 2, none⟩ (.string ci)).setCell ⟨w.heap.size + 3, 3, none⟩ (.slice uc cl.length cc))) := ((((B2.out.setCell (p := ⟨w.heap.size + 3, 0, none⟩) (show w.heap.size ≤ w.heap.size + 3 by omega) _).setCell (p := ⟨w.heap.size + 3, 1, none⟩) (show w.heap.size ≤ w.heap.size + 3 by omega) _).setCell (p := ⟨w.heap.size + 3, 2, none⟩) (show w.heap.size ≤ w.heap.size + 3 by omega) _).setCell (p := ⟨w.heap.size + 3, 3, none⟩) (show w.heap.size ≤ w.heap.size + 3 by omega) _)
  have V3 : Hid (DrR (((((((((((((((((((wd.setCell ⟨w.heap.size, 0, none⟩ (.int .i64 tp)).setCell ⟨w.heap.size, 1, none⟩ (.int .i64 ts)).setCell ⟨w.heap.size + 1, 0, none⟩ (.int .i64 yh)).setCell ⟨w.heap.size + 1, 1, none⟩ (.int .i64 yt)).setCell ⟨w.heap.size + 1, 2, none⟩ (.string ya)).setCell ⟨w.heap.size + 1, 3, none⟩ (.string yv)).setCell ⟨w.heap.size + 1, 4, none⟩ (.string yn)).setCell ⟨w.heap.size + 1, 5, none⟩ (.string yd)).setCell ⟨w.heap.size + 1, 6, none⟩ (.slice u2 l2.length c2)).setCell ⟨w.heap.size + 2, 0, none⟩ (.int .i64 xh)).setCell ⟨w.heap.size + 2, 1, none⟩ (.int .i64 xt)).setCell ⟨w.heap.size + 2, 2, none⟩ (.string xa)).setCell ⟨w.heap.size + 2, 3, none⟩ (.string xv)).setCell ⟨w.heap.size + 2, 4, none⟩ (.string xn)).setCell ⟨w.heap.size + 2, 5, none⟩ (.string xd)).setCell ⟨w.heap.size + 3, 0, none⟩ (.int .i64 ch)).setCell ⟨w.heap.size + 3, 1, none⟩ (.int .i64 cr)).setCell ⟨w.heap.size + 3, 2, none⟩ (.string ci)).setCell ⟨w.heap.size + 3, 3, none⟩ (.slice uc cl.length cc)) (g + 1) u2 c2 l2) := ((((V2.out.set 0 _ (fun b o e => by have := RV2.out.2.2.2 b o e; omega)).set 1 _ (fun b o e => by have := RV2.out.2.2.2 b o e; omega)).set 2 _ (fun b o e => by have := RV2.out.2.2.2 b o e; omega)).set 3 _ (fun b o e => by have := RV2.out.2.2.2 b o e; omega))
  have N3 : Hid (DrR (((((((((((((((((((wd.setCell ⟨w.heap.size, 0, none⟩ (.int .i64 tp)).setCell ⟨w.heap.size, 1, none⟩ (.int .i64 ts)).setCell ⟨w.heap.size + 1, 0, none⟩ (.int .i64 yh)).setCell ⟨w.heap.size + 1, 1, none⟩ (.int .i64 yt)).setCell ⟨w.heap.size + 1, 2, none⟩ (.string ya)).setCell ⟨w.heap.size + 1, 3, none⟩ (.string yv)).setCell ⟨w.heap.size + 1, 4, none⟩ (.string yn)).setCell ⟨w.heap.size + 1, 5, none⟩ (.string yd)).setCell ⟨w.heap.size + 1, 6, none⟩ (.slice u2 l2.length c2)).setCell ⟨w.heap.size + 2, 0, none⟩ (.int .i64 xh)).setCell ⟨w.heap.size + 2, 1, none⟩ (.int .i64 xt)).setCell ⟨w.heap.size + 2, 2, none⟩ (.string xa)).setCell ⟨w.heap.size + 2, 3, none⟩ (.string xv)).setCell ⟨w.heap.size + 2, 4, none⟩ (.string xn)).setCell ⟨w.heap.size + 2, 5, none⟩ (.string xd)).setCell ⟨w.heap.size + 3, 0, none⟩ (.int .i64 ch)).setCell ⟨w.heap.size + 3, 1, none⟩ (.int .i64 cr)).setCell ⟨w.heap.size + 3, 2, none⟩ (.string ci)).setCell ⟨w.heap.size + 3, 3, none⟩ (.slice uc cl.length cc)) (g + 1) un cn nx) := ((((N2.out.set 0 _ (fun b o e => by have := RN2.out.2.2.2 b o e; omega)).set 1 _ (fun b o e => by have := RN2.out.2.2.2 b o e; omega)).set 2 _ (fun b o e => by have := RN2.out.2.2.2 b o e; omega)).set 3 _ (fun b o e => by have := RN2.out.2.2.2 b o e; omega))
  have S3 : Hid (DrS (((((((((((((((((((wd.setCell ⟨w.heap.size, 0, none⟩ (.int .i64 tp)).setCell ⟨w.heap.size, 1, none⟩ (.int .i64 ts)).setCell ⟨w.heap.size + 1, 0, none⟩ (.int .i64 yh)).setCell ⟨w.heap.size + 1, 1, none⟩ (.int .i64 yt)).setCell ⟨w.heap.size + 1, 2, none⟩ (.string ya)).setCell ⟨w.heap.size + 1, 3, none⟩ (.string yv)).setCell ⟨w.heap.size + 1, 4, none⟩ (.string yn)).setCell ⟨w.heap.size + 1, 5, none⟩ (.string yd)).setCell ⟨w.heap.size + 1, 6, none⟩ (.slice u2 l2.length c2)).setCell ⟨w.heap.size + 2, 0, none⟩ (.int .i64 xh)).setCell ⟨w.heap.size + 2, 1, none⟩ (.int .i64 xt)).setCell ⟨w.heap.size + 2, 2, none⟩ (.string xa)).setCell ⟨w.heap.size + 2, 3, none⟩ (.string xv)).setCell ⟨w.heap.size + 2, 4, none⟩ (.string xn)).setCell ⟨w.heap.size + 2, 5, none⟩ (.string xd)).setCell ⟨w.heap.size + 3, 0, none⟩ (.int .i64 ch)).setCell ⟨w.heap.size + 3, 1, none⟩ (.int .i64 cr)).setCell ⟨w.heap.size + 3, 2, none⟩ (.string ci)).setCell ⟨w.heap.size + 3, 3, none⟩ (.slice uc cl.length cc)) (g + 1) uc ⟨ch, cr, ci, cl⟩) := ((((S2.out.set 0 _ (fun b o e => by have := RS2.out.2.2.2.2 b o e; omega)).set 1 _ (fun b o e => by have := RS2.out.2.2.2.2 b o e; omega)).set 2 _ (fun b o e => by have := RS2.out.2.2.2.2 b o e; omega)).set 3 _ (fun b o e => by have := RS2.out.2.2.2.2 b o e; omega))
  have p3_0 := (R2_3.out).cell 0 rfl
  have p3_1 := (R2_3.out).cell 1 rfl
  have p3_2 := (R2_3.out).cell 2 rfl
  have p3_3 := (R2_3.out).cell 3 rfl
  have pf3 := fun q => (R2_3.out).frozen q
  go_simp
  clear p3_0 p3_1 p3_2 p3_3 pf3
  refine hK.out _ _ (⟨⟨(K3_0.out).cell 0 rfl, (K3_0.out).cell 1 rfl⟩, ⟨(K3_1.out).cell 0 rfl, (K3_1.out).cell 1 rfl, (K3_1.out).cell 2 rfl, (K3_1.out).cell 3 rfl, (K3_1.out).cell 4 rfl, (K3_1.out).cell 5 rfl, (K3_1.out).cell 6 rfl⟩, ⟨(K3_2.out).cell 0 rfl, (K3_2.out).cell 1 rfl, (K3_2.out).cell 2 rfl, (K3_2.out).cell 3 rfl, (K3_2.out).cell 4 rfl, (K3_2.out).cell 5 rfl⟩, ⟨(K3_3.out).cell 0 rfl, (K3_3.out).cell 1 rfl, (K3_3.out).cell 2 rfl, (K3_3.out).cell 3 rfl⟩⟩) (fun hHeld => ?_)
  clear hK K
  try simp only [Act.put, List.setIfInBounds_toArray, List.set_cons_zero, List.set_cons_succ]
  refine wpAnyH_take (i := 11) (oi := { dst := Option.some 7, op := Go.Op.assign (Go.Operand.tmp 48), type := 3, pos := "l11_verify.go:111", after := #[{ on := 5, ground := Go.Ground.data }, { on := 10, ground := Go.Ground.chain }, { on := 0, ground := Go.Ground.phase }, { on := 1, ground := Go.Ground.phase }, { on := 2, ground := Go.Ground.phase }, { on := 3, ground := Go.Ground.phase }, { on := 4, ground := Go.Ground.phase }, { on := 5, ground := Go.Ground.phase }, { on := 6, ground := Go.Ground.phase }, { on := 7, ground := Go.Ground.phase }, { on := 8, ground := Go.Ground.phase }, { on := 9, ground := Go.Ground.phase }, { on := 10, ground := Go.Ground.phase }], guard := Option.none }) (v := ?_) rfl (by kernel_rfl) (by kernel_rfl) (by kernel_rfl) (fun _ _ _ h => h) (Or.inl ⟨by rfl, ?_⟩) hHeld ?_
  rotate_left
  · intro w hSw
    try dsimp only at hSw
    go_simp
    try (with_reducible rfl)
  simp only [Act.put, List.setIfInBounds_toArray, List.set_cons_zero, List.set_cons_succ]
  refine wpAnyH_done (by kernel_rfl) ?_ _
  have r00 := R3_0.out.cell 0 rfl
  have r01 := R3_0.out.cell 1 rfl
  have r10 := R3_1.out.cell 0 rfl
  have r11 := R3_1.out.cell 1 rfl
  have r12 := R3_1.out.cell 2 rfl
  have r13 := R3_1.out.cell 3 rfl
  have r14 := R3_1.out.cell 4 rfl
  have r15 := R3_1.out.cell 5 rfl
  have r16 := R3_1.out.cell 6 rfl
  have r20 := R3_2.out.cell 0 rfl
  have r21 := R3_2.out.cell 1 rfl
  have r22 := R3_2.out.cell 2 rfl
  have r23 := R3_2.out.cell 3 rfl
  have r24 := R3_2.out.cell 4 rfl
  have r25 := R3_2.out.cell 5 rfl
  have r30 := R3_3.out.cell 0 rfl
  have r31 := R3_3.out.cell 1 rfl
  have r32 := R3_3.out.cell 2 rfl
  have r33 := R3_3.out.cell 3 rfl
  have VF := V3.out.lo (show w.heap.size ≤ g + 1 by omega)
  have NF := N3.out.lo (show w.heap.size ≤ g + 1 by omega)
  have SF : Hid (DrS (((((((((((((((((((wd.setCell ⟨w.heap.size, 0, none⟩ (.int .i64 tp)).setCell ⟨w.heap.size, 1, none⟩ (.int .i64 ts)).setCell ⟨w.heap.size + 1, 0, none⟩ (.int .i64 yh)).setCell ⟨w.heap.size + 1, 1, none⟩ (.int .i64 yt)).setCell ⟨w.heap.size + 1, 2, none⟩ (.string ya)).setCell ⟨w.heap.size + 1, 3, none⟩ (.string yv)).setCell ⟨w.heap.size + 1, 4, none⟩ (.string yn)).setCell ⟨w.heap.size + 1, 5, none⟩ (.string yd)).setCell ⟨w.heap.size + 1, 6, none⟩ (.slice u2 l2.length c2)).setCell ⟨w.heap.size + 2, 0, none⟩ (.int .i64 xh)).setCell ⟨w.heap.size + 2, 1, none⟩ (.int .i64 xt)).setCell ⟨w.heap.size + 2, 2, none⟩ (.string xa)).setCell ⟨w.heap.size + 2, 3, none⟩ (.string xv)).setCell ⟨w.heap.size + 2, 4, none⟩ (.string xn)).setCell ⟨w.heap.size + 2, 5, none⟩ (.string xd)).setCell ⟨w.heap.size + 3, 0, none⟩ (.int .i64 ch)).setCell ⟨w.heap.size + 3, 1, none⟩ (.int .i64 cr)).setCell ⟨w.heap.size + 3, 2, none⟩ (.string ci)).setCell ⟨w.heap.size + 3, 3, none⟩ (.slice uc cl.length cc)) w.heap.size uc ⟨ch, cr, ci, cl⟩) := ⟨S3.out.1, S3.out.2.1, S3.out.2.2.1, S3.out.2.2.2.1, fun b o e => by have := S3.out.2.2.2.2 b o e; omega⟩
  have BF := B3.out
  clear K0_0 R0_0 K0_1 R0_1 K0_2 R0_2 K0_3 R0_3 K1_0 R1_0 K1_1 R1_1 K1_2 R1_2 K1_3 R1_3 K2_0 R2_0 K2_1 R2_1 K2_2 R2_2 K2_3 R2_3 K3_0 R3_0 K3_1 R3_1 K3_2 R3_2 K3_3 R3_3 B0 V0 N0 S0 B1 V1 N1 S1 B2 V2 N2 S2 B3 V3 N3 S3
  generalize (((((((((((((((((((wd.setCell ⟨w.heap.size, 0, none⟩ (.int .i64 tp)).setCell ⟨w.heap.size, 1, none⟩ (.int .i64 ts)).setCell ⟨w.heap.size + 1, 0, none⟩ (.int .i64 yh)).setCell ⟨w.heap.size + 1, 1, none⟩ (.int .i64 yt)).setCell ⟨w.heap.size + 1, 2, none⟩ (.string ya)).setCell ⟨w.heap.size + 1, 3, none⟩ (.string yv)).setCell ⟨w.heap.size + 1, 4, none⟩ (.string yn)).setCell ⟨w.heap.size + 1, 5, none⟩ (.string yd)).setCell ⟨w.heap.size + 1, 6, none⟩ (.slice u2 l2.length c2)).setCell ⟨w.heap.size + 2, 0, none⟩ (.int .i64 xh)).setCell ⟨w.heap.size + 2, 1, none⟩ (.int .i64 xt)).setCell ⟨w.heap.size + 2, 2, none⟩ (.string xa)).setCell ⟨w.heap.size + 2, 3, none⟩ (.string xv)).setCell ⟨w.heap.size + 2, 4, none⟩ (.string xn)).setCell ⟨w.heap.size + 2, 5, none⟩ (.string xd)).setCell ⟨w.heap.size + 3, 0, none⟩ (.int .i64 ch)).setCell ⟨w.heap.size + 3, 1, none⟩ (.int .i64 cr)).setCell ⟨w.heap.size + 3, 2, none⟩ (.string ci)).setCell ⟨w.heap.size + 3, 3, none⟩ (.slice uc cl.length cc)) = wf at *
  go_wp2
  refine bodyPost_ret (v := .tuple #[.agg #[.int .i64 tp, .int .i64 ts], .agg #[.int .i64 yh, .int .i64 yt, .string ya, .string yv, .string yn, .string yd, .slice u2 l2.length c2], .agg #[.int .i64 xh, .int .i64 xt, .string xa, .string xv, .string xn, .string xd], .slice un nx.length cn, .agg #[.int .i64 ch, .int .i64 cr, .string ci, .slice uc cl.length cc], .int .i64 z]) ?_ rfl (by first | exact ⟨⟨tp, ts⟩, ⟨yh, yt, ya, yv, yn, yd⟩, l2, u2, c2, ⟨xh, xt, xa, xv, xn, xd⟩, nx, un, cn, ⟨ch, cr, ci, cl⟩, uc, cc, z, rfl, HY, HX, VF, NF, SF, BF⟩ | exact ⟨⟨tp, ts⟩, ⟨yh, yt, ya, yv, yn, yd⟩, l2, u2, c2, ⟨xh, xt, xa, xv, xn, xd⟩, nx, un, cn, ⟨ch, cr, ci, cl⟩, uc, ⟨cc, z, rfl⟩, HY, HX, VF, NF, SF, BF⟩)
  simp [results, Tryz.results6, go_sem, r00, r01, r10, r11, r12, r13, r14, r15, r16, r20, r21, r22, r23, r24, r25, r30, r31, r32, r33]
end Go.Proofs.YtajfmjgaaapjeaaGreatDoor
