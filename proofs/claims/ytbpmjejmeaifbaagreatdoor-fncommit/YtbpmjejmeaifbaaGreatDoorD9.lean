/- What spec.l9For makes, as far as the laws ask; old memory stays. Conditions: at most 2 to the 20 numbers. -/
import Derived.Test.YtbpmjejmeaifbaaGreatDoorCo
import Derived.Test.YtbpmjejmeaifbaaGreatDoorCw
import Derived.Test.YtbpmjejmeaifbaaGreatDoorME
import Derived.Deep.RegionHeldLaw
import Derived.Deep.RegionHeld3
import Derived.Deep.DeepCutAuto
import Derived.Deep.CutBlock
namespace Go.Proofs.YtbpmjejmeaifbaaGreatDoor
open Go.RowKit
open Num
set_option linter.unusedVariables false
def cQ9 (y : Ct) (q : Value) : Value := .agg #[.int .i64 y.h, .int .i64 y.r, .string y.i, q]
theorem own_setT {w : World} {B B' g j : Nat} {u v : Value} {l : List Sg} (h : OwnS w B v l) (hB : B' ≤ B) (hg : g < B) : OwnS (w.setCell ⟨g, j, none⟩ u) B' v l := own_less (ownsRow_setCell_below h hg _) hB
/-- Numbers where a slice says, if any. -/
def Nms (w : World) (a : Option Addr) (l : List Int) : Prop := l.length = 0 ∨ ∃ b o, a = some ⟨b, o, none⟩ ∧ IAt w b o l
set_option maxHeartbeats 3200000 in
set_option maxRecDepth 100000 in
theorem for_d (y : H) (rd : Int) (a : Option Addr) (cap : Nat) (ids : List Int) (w : World) (hi : Nms w a ids) (hlen : ids.length ≤ 1048576) :
    Calls Tryz.prog 48 #[hV y, .int .i64 rd, .slice a ids.length cap] w fun e w' => ∃ (l : List Sg) (q : Value), e = .returned (cQ9 ⟨y.h, rd, headI y, l⟩ q) ∧ Hid (l.length = ids.length ∧ ∀ z ∈ l, z.s.size ≤ 8) ∧ Hid (OwnS w' w.heap.size q l) ∧ Hid (Below w.heap.size w w') := by
  obtain ⟨i0, hinf, hz0, hz1, hz2⟩ := infoSf
  have HI : Hid (Nms w a ids) := hi
  clear hi
  obtain ⟨w0, hw0⟩ : ∃ W, (w.alloc (.cells (hcs y).toList.toArray 26)).alloc (.cells [.int .i64 0, .int .i64 0, .string ⟨#[]⟩, .slice none 0 0].toArray 29) = W := ⟨_, rfl⟩
  have HH : Hid (Blk w0 w.heap.size (hcs y).toList 26) := by rw [← hw0]; exact (blk_new w _ _).alloc _
  have HR : Hid (Blk w0 (w.heap.size + 1) [.int .i64 0, .int .i64 0, .string ⟨#[]⟩, .slice none 0 0] 29) := by
    rw [← hw0]
    have h := blk_new (w.alloc (.cells (hcs y).toList.toArray 26)) [.int .i64 0, .int .i64 0, .string ⟨#[]⟩, .slice none 0 0] 29
    rw [show (w.alloc (.cells (hcs y).toList.toArray 26)).heap.size = w.heap.size + 1 by simp] at h; exact h
  have HB : Hid (Below w.heap.size w w0) := by rw [← hw0]; exact below_two _ _ _
  have kH := fun W => spec_headid y W
  generalize headI y = I at *
  obtain ⟨h, t, ya, yv, yn, yd⟩ := y
  unfold hV at *
  unfold hcs at *
  simp only at hw0 HH kH ⊢
  have x0 := HH.out.cell 0 rfl
  have x1 := HH.out.cell 1 rfl
  have x2 := HH.out.cell 2 rfl
  have x3 := HH.out.cell 3 rfl
  have x4 := HH.out.cell 4 rfl
  have x5 := HH.out.cell 5 rfl
  go_enter Tryz.func48, Tryz.ntmps48
  go_upto_region 1 with fail
  go_cut [7] (fun s wx => ∃ wq : World, s = .pointer (some ⟨wq.heap.size, 0, none⟩) ∧ Hid (w.heap.size + 1 < wq.heap.size) ∧ Hid (Below w.heap.size w wq) ∧ Hid (Blk wq (w.heap.size + 1) [.int .i64 0, .int .i64 0, .string ⟨#[]⟩, .slice none 0 0] 29) ∧ Hid (RC wq wx wq.heap.size ⟨h, rd, I, []⟩ (.slice none 0 0)))
  case first =>
    have hw01 : w.heap.size + 1 < w0.heap.size := HR.out.lt
    go_wp2_with fail
    refine wp_region_held_drew (S := (fun W : World => W.cell? ⟨w.heap.size, 0, none⟩ = some (.int .i64 h) ∧ W.cell? ⟨w.heap.size, 1, none⟩ = some (.int .i64 t) ∧ W.cell? ⟨w.heap.size, 2, none⟩ = some (.string ya) ∧ W.cell? ⟨w.heap.size, 3, none⟩ = some (.string yv) ∧ W.cell? ⟨w.heap.size, 4, none⟩ = some (.string yn) ∧ W.cell? ⟨w.heap.size, 5, none⟩ = some (.string yd))) (by kernel_rfl) ?_ (fun hHeld => ?_)
    · exact ⟨x0, x1, x2, x3, x4, x5⟩
    refine wpAnyH_take (i := 0) (oi := { dst := Option.some 9, op := Go.Op.fieldAddr 26 (Go.Operand.tmp 3) 0, type := 0, pos := "l09_commit.go:75", after := #[], guard := Option.none }) (v := ?_) rfl (by kernel_rfl) (by kernel_rfl) (by kernel_rfl) (fun _ _ _ h => h) (Or.inl ⟨by rfl, ?_⟩) hHeld ?_
    rotate_left
    · intro w hSw
      try dsimp only at hSw
      go_simp
      try (with_reducible rfl)
    simp only [Act.put, List.setIfInBounds_toArray, List.set_cons_zero, List.set_cons_succ]
    refine wpAnyH_take (i := 1) (oi := { dst := Option.some 10, op := Go.Op.load 3 (Go.Operand.tmp 9), type := 3, pos := "l09_commit.go:75", after := #[{ on := 0, ground := Go.Ground.data }], guard := Option.none }) (v := ?_) rfl (by kernel_rfl) (by kernel_rfl) (by kernel_rfl) (fun _ _ _ h => h) (Or.inl ⟨by rfl, ?_⟩) hHeld ?_
    rotate_left
    · intro w hSw
      try dsimp only at hSw
      go_simp
      try (with_reducible rfl)
    simp only [Act.put, List.setIfInBounds_toArray, List.set_cons_zero, List.set_cons_succ]
    refine wpAnyH_take (i := 2) (oi := { dst := Option.some 11, op := Go.Op.move (Go.Operand.tmp 1), type := 3, pos := "l09_commit.go:75", after := #[], guard := Option.none }) (v := ?_) rfl (by kernel_rfl) (by kernel_rfl) (by kernel_rfl) (fun _ _ _ h => h) (Or.inl ⟨by rfl, ?_⟩) hHeld ?_
    rotate_left
    · intro w hSw
      try dsimp only at hSw
      go_simp
      try (with_reducible rfl)
    simp only [Act.put, List.setIfInBounds_toArray, List.set_cons_zero, List.set_cons_succ]
    refine wpAnyH_take (i := 3) (oi := { dst := Option.some 12, op := Go.Op.load 26 (Go.Operand.tmp 3), type := 26, pos := "l09_commit.go:75", after := #[], guard := Option.none }) (v := ?_) rfl (by kernel_rfl) (by kernel_rfl) (by kernel_rfl) (fun _ _ _ h => h) (Or.inl ⟨by rfl, ?_⟩) hHeld ?_
    rotate_left
    · intro w hSw
      try dsimp only at hSw
      go_simp
      try (with_reducible rfl)
    simp only [Act.put, List.setIfInBounds_toArray, List.set_cons_zero, List.set_cons_succ]
    refine wpAnyH_ready (rs := [4, 6]) (by kernel_rfl) (by decide) ?_
    refine AllReadyH.cons (o := { dst := Option.some 13, op := Go.Op.call { callee := Go.Callee.value (Go.Operand.func 13), args := #[Go.Operand.tmp 12], argTypes := #[26] }, type := 9, pos := "l09_commit.go:75", after := #[{ on := 3, ground := Go.Ground.data }], guard := Option.none }) rfl (fun K hK => ?_) (AllReadyH.cons (o := { dst := Option.some 7, op := Go.Op.alloc 29, type := 0, pos := "l09_commit.go:75", after := #[], guard := Option.none }) rfl (fun K hK => ?_) AllReadyH.nil)
    · go_simp
      go_at_call 13
      refine (kH _).mono ?_
      rintro e w1 ⟨rfl, b1⟩
      have HD1 : Hid (Below w0.heap.size w0 w1) := (Below.refl _ _).drew.trans b1
      have HH1 : Hid (Blk w1 w.heap.size [.int .i64 h, .int .i64 t, .string ya, .string yv, .string yn, .string yd] 26) := HH.out.below HD1.out HH.out.lt
      clear b1
      refine hK.out _ _ ⟨HH1.out.cell 0 rfl, HH1.out.cell 1 rfl, HH1.out.cell 2 rfl, HH1.out.cell 3 rfl, HH1.out.cell 4 rfl, HH1.out.cell 5 rfl⟩ (fun hHeld => ?_)
      clear hK K
      refine wpAnyH_take (i := 5) (oi := { dst := Option.some 14, op := Go.Op.build 29 #[(0, Go.Operand.tmp 10), (1, Go.Operand.tmp 11), (2, Go.Operand.tmp 13)], type := 29, pos := "l09_commit.go:75", after := #[{ on := 1, ground := Go.Ground.data }, { on := 2, ground := Go.Ground.data }, { on := 4, ground := Go.Ground.data }], guard := Option.none }) (v := ?_) rfl (by kernel_rfl) (by kernel_rfl) (by kernel_rfl) (fun _ _ _ h => h) (Or.inl ⟨by rfl, ?_⟩) hHeld ?_
      rotate_left
      · intro w hSw
        try dsimp only at hSw
        go_simp
        try (with_reducible rfl)
      simp only [Act.put, List.setIfInBounds_toArray, List.set_cons_zero, List.set_cons_succ]
      refine wpAnyH_ready (rs := [6]) (by kernel_rfl) (by decide) ?_
      refine AllReadyH.cons (o := { dst := Option.some 7, op := Go.Op.alloc 29, type := 0, pos := "l09_commit.go:75", after := #[], guard := Option.none }) rfl (fun K hK => ?_) AllReadyH.nil
      go_simp
      refine hK.out _ _ ⟨(HH1.out.alloc _).cell 0 rfl, (HH1.out.alloc _).cell 1 rfl, (HH1.out.alloc _).cell 2 rfl, (HH1.out.alloc _).cell 3 rfl, (HH1.out.alloc _).cell 4 rfl, (HH1.out.alloc _).cell 5 rfl⟩ (fun hHeld => ?_)
      clear hK K
      have HG1 : Hid (Blk (w1.alloc (.cells ([.int .i64 0, .int .i64 0, .string ⟨#[]⟩, .slice none 0 0] : List Value).toArray 29)) w1.heap.size [.int .i64 0, .int .i64 0, .string ⟨#[]⟩, .slice none 0 0] 29) := blk_new w1 _ _
      have y0 := HG1.out.cell 0 rfl
      have y1 := HG1.out.cell 1 rfl
      have y2 := HG1.out.cell 2 rfl
      have y3 := HG1.out.cell 3 rfl
      have f0 := HG1.out.frozen 0
      have f1 := HG1.out.frozen 1
      have f2 := HG1.out.frozen 2
      have f3 := HG1.out.frozen 3
      refine wpAnyH_ready (rs := [7]) (by kernel_rfl) (by decide) ?_
      refine AllReadyH.cons (o := { dst := Option.none, op := Go.Op.store 29 (Go.Operand.tmp 7) (Go.Operand.tmp 14), type := 0, pos := "l09_commit.go:75", after := #[{ on := 6, ground := Go.Ground.data }, { on := 5, ground := Go.Ground.data }, { on := 4, ground := Go.Ground.chain }, { on := 0, ground := Go.Ground.phase }, { on := 1, ground := Go.Ground.phase }, { on := 2, ground := Go.Ground.phase }, { on := 3, ground := Go.Ground.phase }, { on := 4, ground := Go.Ground.phase }, { on := 5, ground := Go.Ground.phase }, { on := 6, ground := Go.Ground.phase }], guard := Option.none }) rfl (fun K hK => ?_) AllReadyH.nil
      go_simp
      refine hK.out _ _ ⟨(HH1.out.alloc _).cell 0 rfl, (HH1.out.alloc _).cell 1 rfl, (HH1.out.alloc _).cell 2 rfl, (HH1.out.alloc _).cell 3 rfl, (HH1.out.alloc _).cell 4 rfl, (HH1.out.alloc _).cell 5 rfl⟩ (fun hHeld => ?_)
      clear hK K
      have HB1 : Hid (Below w.heap.size w w1) := HB.out.trans (HD1.out.mono HB.out.size)
      have HR1 : Hid (Blk w1 (w.heap.size + 1) [.int .i64 0, .int .i64 0, .string ⟨#[]⟩, .slice none 0 0] 29) := HR.out.below HD1.out HR.out.lt
      have HY0 : Hid (RC w1 (w1.alloc (.cells #[.int .i64 h, .int .i64 rd, .string I, .slice none 0 0] 29)) w1.heap.size ⟨h, rd, I, []⟩ (.slice none 0 0)) := ⟨blk_new w1 _ _, OwnS.nil _ _, below_one _ _⟩
      have hs1 : Hid (w.heap.size + 1 < w1.heap.size) := HR1.out.lt
      refine wpAnyH_done (by kernel_rfl) ?_ _
      go_wp2_with fail
      go_meet
      exact ⟨w1, rfl, hs1, HB1, HR1, HY0⟩
    · go_simp
      refine hK.out _ _ ⟨(HH.out.alloc _).cell 0 rfl, (HH.out.alloc _).cell 1 rfl, (HH.out.alloc _).cell 2 rfl, (HH.out.alloc _).cell 3 rfl, (HH.out.alloc _).cell 4 rfl, (HH.out.alloc _).cell 5 rfl⟩ (fun hHeld => ?_)
      clear hK K
      have HG0 : Hid (Blk (w0.alloc (.cells ([.int .i64 0, .int .i64 0, .string ⟨#[]⟩, .slice none 0 0] : List Value).toArray 29)) w0.heap.size [.int .i64 0, .int .i64 0, .string ⟨#[]⟩, .slice none 0 0] 29) := blk_new w0 _ _
      have HHa : Hid (Blk (w0.alloc (.cells ([.int .i64 0, .int .i64 0, .string ⟨#[]⟩, .slice none 0 0] : List Value).toArray 29)) w.heap.size [.int .i64 h, .int .i64 t, .string ya, .string yv, .string yn, .string yd] 26) := HH.out.alloc _
      refine wpAnyH_ready (rs := [4]) (by kernel_rfl) (by decide) ?_
      refine AllReadyH.cons (o := { dst := Option.some 13, op := Go.Op.call { callee := Go.Callee.value (Go.Operand.func 13), args := #[Go.Operand.tmp 12], argTypes := #[26] }, type := 9, pos := "l09_commit.go:75", after := #[{ on := 3, ground := Go.Ground.data }], guard := Option.none }) rfl (fun K hK => ?_) AllReadyH.nil
      go_simp
      go_at_call 13
      refine (kH _).mono ?_
      rintro e w1 ⟨rfl, b1⟩
      have HD2 : Hid (Below w0.heap.size w0 w1) := ((below_one w0 (.cells #[.int .i64 0, .int .i64 0, .string ⟨#[]⟩, .slice none 0 0] 29)).drew).trans (b1.mono (by simp))
      have HH1 : Hid (Blk w1 w.heap.size [.int .i64 h, .int .i64 t, .string ya, .string yv, .string yn, .string yd] 26) := HH.out.below HD2.out HH.out.lt
      have HG1 : Hid (Blk w1 w0.heap.size [.int .i64 0, .int .i64 0, .string ⟨#[]⟩, .slice none 0 0] 29) := Blk.below (W := (w0.alloc (.cells #[.int .i64 0, .int .i64 0, .string ⟨#[]⟩, .slice none 0 0] 29)).drew) (blk_new w0 _ _) b1 (by simp)
      clear b1
      refine hK.out _ _ ⟨HH1.out.cell 0 rfl, HH1.out.cell 1 rfl, HH1.out.cell 2 rfl, HH1.out.cell 3 rfl, HH1.out.cell 4 rfl, HH1.out.cell 5 rfl⟩ (fun hHeld => ?_)
      clear hK K
      refine wpAnyH_take (i := 5) (oi := { dst := Option.some 14, op := Go.Op.build 29 #[(0, Go.Operand.tmp 10), (1, Go.Operand.tmp 11), (2, Go.Operand.tmp 13)], type := 29, pos := "l09_commit.go:75", after := #[{ on := 1, ground := Go.Ground.data }, { on := 2, ground := Go.Ground.data }, { on := 4, ground := Go.Ground.data }], guard := Option.none }) (v := ?_) rfl (by kernel_rfl) (by kernel_rfl) (by kernel_rfl) (fun _ _ _ h => h) (Or.inl ⟨by rfl, ?_⟩) hHeld ?_
      rotate_left
      · intro w hSw
        try dsimp only at hSw
        go_simp
        try (with_reducible rfl)
      simp only [Act.put, List.setIfInBounds_toArray, List.set_cons_zero, List.set_cons_succ]
      have y0 := HG1.out.cell 0 rfl
      have y1 := HG1.out.cell 1 rfl
      have y2 := HG1.out.cell 2 rfl
      have y3 := HG1.out.cell 3 rfl
      have f0 := HG1.out.frozen 0
      have f1 := HG1.out.frozen 1
      have f2 := HG1.out.frozen 2
      have f3 := HG1.out.frozen 3
      have HH2 := (((HH1.out.other 0 (.int .i64 h) (show w.heap.size ≠ w0.heap.size by omega)).other 1 (.int .i64 rd) (show w.heap.size ≠ w0.heap.size by omega)).other 2 (.string I) (show w.heap.size ≠ w0.heap.size by omega)).other 3 (.slice none 0 0) (show w.heap.size ≠ w0.heap.size by omega)
      refine wpAnyH_ready (rs := [7]) (by kernel_rfl) (by decide) ?_
      refine AllReadyH.cons (o := { dst := Option.none, op := Go.Op.store 29 (Go.Operand.tmp 7) (Go.Operand.tmp 14), type := 0, pos := "l09_commit.go:75", after := #[{ on := 6, ground := Go.Ground.data }, { on := 5, ground := Go.Ground.data }, { on := 4, ground := Go.Ground.chain }, { on := 0, ground := Go.Ground.phase }, { on := 1, ground := Go.Ground.phase }, { on := 2, ground := Go.Ground.phase }, { on := 3, ground := Go.Ground.phase }, { on := 4, ground := Go.Ground.phase }, { on := 5, ground := Go.Ground.phase }, { on := 6, ground := Go.Ground.phase }], guard := Option.none }) rfl (fun K hK => ?_) AllReadyH.nil
      go_simp
      refine hK.out _ _ ⟨HH2.cell 0 rfl, HH2.cell 1 rfl, HH2.cell 2 rfl, HH2.cell 3 rfl, HH2.cell 4 rfl, HH2.cell 5 rfl⟩ (fun hHeld => ?_)
      clear hK K HH2
      have hw01h : Hid (w.heap.size + 1 < w0.heap.size) := hw01
      have HY0 : Hid (RC w0 ((((w1.setCell ⟨w0.heap.size, 0, none⟩ (.int .i64 h)).setCell ⟨w0.heap.size, 1, none⟩ (.int .i64 rd)).setCell ⟨w0.heap.size, 2, none⟩ (.string I)).setCell ⟨w0.heap.size, 3, none⟩ (.slice none 0 0)) w0.heap.size ⟨h, rd, I, []⟩ (.slice none 0 0)) := ⟨(((HG1.out.set 0 _).set 1 _).set 2 _).set 3 _, OwnS.nil _ _, (((HD2.out.setCell (Nat.le_refl _) _).setCell (Nat.le_refl _) _).setCell (Nat.le_refl _) _).setCell (Nat.le_refl _) _⟩
      refine wpAnyH_done (by kernel_rfl) ?_ _
      go_wp2_with fail
      go_meet
      exact ⟨w0, rfl, hw01h, HB, HR, HY0⟩
  case rest =>
    rename World => w2
    obtain ⟨w1, rfl, HW1, HB1, HR1, HY0⟩ := hcut
    have hww1 := HW1.out
    clear hw0 x0 x1 x2 x3 x4 x5 HH HR HB kH HW1
    go_wp2
    go_loopw [8] (fun iv wr => ∃ (k : Nat) (l : List Sg) (q : Value), k ≤ ids.length ∧ iv = .int .i64 k ∧ Hid (l.length = k ∧ ∀ z ∈ l, z.s.size ≤ 8) ∧ Hid (RC w1 wr w1.heap.size ⟨h, rd, I, l⟩ q)) (fun iv _ => ids.length - (intOf iv).toNat)
    case atStart => exact ⟨0, [], _, Nat.zero_le _, rfl, ⟨rfl, fun z hz => by cases hz⟩, HY0⟩
    case round =>
      obtain ⟨k, l, q, hk, rfl, HLn, HY⟩ := hrel
      clear HY0
      by_cases hlt : k < ids.length
      · have hltz : (k : Int) < (ids.length : Int) := by omega
        rcases HI.out with h0 | ⟨b, o, rfl, hv0⟩
        · omega
        obtain ⟨qa, qc, rfl⟩ := own_shape HY.out.2.1
        have hbw : b < w.heap.size := World.block_lt_of_cell? w _ (hv0 k hlt)
        have c0 := (HB1.out.cell (p := ⟨b, o + k, none⟩) hbw).trans (hv0 k hlt)
        have hb1 : b < w1.heap.size := by omega
        have HC : Hid (w1.cell? ⟨b, o + k, none⟩ = some (.int .i64 ids[k])) := c0
        have HCk : Hid (∀ W, Below w1.heap.size w1 W → W.cell? ⟨b, o + k, none⟩ = some (.int .i64 ids[k])) := fun W hW => (hW.cell (p := ⟨b, o + k, none⟩) hb1).trans HC.out
        clear c0 HC hv0
        generalize ids[k] = z at *
        have k9 := fun (u : Option Addr) (c : Nat) W => spec_l9v ⟨h, rd, I, l⟩ u c z W
        have kD := fun W => spec_dig ⟨h, rd, 2, I, z⟩ W
        have hds := dig_size ⟨h, rd, 2, I, z⟩
        have kG := fun W => spec_sgn z (dig ⟨h, rd, 2, I, z⟩) W (by omega)
        have hgs := sgn_size z (dig ⟨h, rd, 2, I, z⟩)
        generalize sgn z (dig ⟨h, rd, 2, I, z⟩) = S at *
        generalize dig ⟨h, rd, 2, I, z⟩ = G at *
        unfold cV tV at *
        simp only at k9 kD HY
        have hll : l.length ≤ 1048576 := by have := HLn.out.1; omega
        have HYd : Hid (RC w1 wr.drew w1.heap.size ⟨h, rd, I, l⟩ (.slice qa l.length qc)) := HY.out.below (Below.refl _ _).drew
        have sd := HCk.out _ HYd.out.2.2
        have x0 := HY.out.1.cell 0 rfl
        have x1 := HY.out.1.cell 1 rfl
        have x2 := HY.out.1.cell 2 rfl
        have x3 := HY.out.1.cell 3 rfl
        have f3 := HY.out.1.frozen 3
        clear hds
        go_wp2_with fail
        refine wp_region_held_drew (S := (fun W : World => W.cell? ⟨b, o + k, none⟩ = some (.int .i64 z))) (by kernel_rfl) ?_ (fun hHeld => ?_)
        · exact sd
        refine wpAnyH_take (i := 0) (oi := { dst := Option.some 21, op := Go.Op.fieldAddr 29 (Go.Operand.tmp 7) 3, type := 0, pos := "l09_commit.go:77", after := #[], guard := Option.none }) (v := ?_) rfl (by kernel_rfl) (by kernel_rfl) (by kernel_rfl) (fun _ _ _ h => h) (Or.inl ⟨by rfl, ?_⟩) hHeld ?_
        rotate_left
        · intro w hSw
          try dsimp only at hSw
          go_simp
          try (with_reducible rfl)
        simp only [Act.put, List.setIfInBounds_toArray, List.set_cons_zero, List.set_cons_succ]
        refine wpAnyH_take (i := 2) (oi := { dst := Option.some 23, op := Go.Op.move (Go.Operand.tmp 2), type := 32, pos := "l09_commit.go:77", after := #[], guard := Option.none }) (v := ?_) rfl (by kernel_rfl) (by kernel_rfl) (by kernel_rfl) (fun _ _ _ h => h) (Or.inl ⟨by rfl, ?_⟩) hHeld ?_
        rotate_left
        · intro w hSw
          try dsimp only at hSw
          go_simp
          try (with_reducible rfl)
        simp only [Act.put, List.setIfInBounds_toArray, List.set_cons_zero, List.set_cons_succ]
        refine wpAnyH_take (i := 3) (oi := { dst := Option.some 24, op := Go.Op.move (Go.Operand.tmp 8), type := 3, pos := "l09_commit.go:77", after := #[], guard := Option.none }) (v := ?_) rfl (by kernel_rfl) (by kernel_rfl) (by kernel_rfl) (fun _ _ _ h => h) (Or.inl ⟨by rfl, ?_⟩) hHeld ?_
        rotate_left
        · intro w hSw
          try dsimp only at hSw
          go_simp
          try (with_reducible rfl)
        simp only [Act.put, List.setIfInBounds_toArray, List.set_cons_zero, List.set_cons_succ]
        refine wpAnyH_take (i := 4) (oi := { dst := Option.some 25, op := Go.Op.indexAddr 32 (Go.Operand.tmp 23) (Go.Operand.tmp 24), type := 0, pos := "l09_commit.go:77", after := #[{ on := 2, ground := Go.Ground.data }, { on := 3, ground := Go.Ground.data }], guard := Option.none }) (v := ?_) rfl (by kernel_rfl) (by kernel_rfl) (by kernel_rfl) (fun _ _ _ h => h) (Or.inl ⟨by rfl, ?_⟩) hHeld ?_
        rotate_left
        · intro w hSw
          try dsimp only at hSw
          go_simp
          try (with_reducible rfl)
        simp only [Act.put, List.setIfInBounds_toArray, List.set_cons_zero, List.set_cons_succ]
        refine wpAnyH_take (i := 5) (oi := { dst := Option.some 26, op := Go.Op.load 3 (Go.Operand.tmp 25), type := 3, pos := "l09_commit.go:77", after := #[{ on := 4, ground := Go.Ground.data }], guard := Option.none }) (v := ?_) rfl (by kernel_rfl) (by kernel_rfl) (by kernel_rfl) (fun _ _ _ h => h) (Or.inl ⟨by rfl, ?_⟩) hHeld ?_
        rotate_left
        · intro w hSw
          try dsimp only at hSw
          go_simp
          try (with_reducible rfl)
        simp only [Act.put, List.setIfInBounds_toArray, List.set_cons_zero, List.set_cons_succ]
        refine wpAnyH_take (i := 6) (oi := { dst := Option.some 27, op := Go.Op.move (Go.Operand.tmp 2), type := 32, pos := "l09_commit.go:77", after := #[], guard := Option.none }) (v := ?_) rfl (by kernel_rfl) (by kernel_rfl) (by kernel_rfl) (fun _ _ _ h => h) (Or.inl ⟨by rfl, ?_⟩) hHeld ?_
        rotate_left
        · intro w hSw
          try dsimp only at hSw
          go_simp
          try (with_reducible rfl)
        simp only [Act.put, List.setIfInBounds_toArray, List.set_cons_zero, List.set_cons_succ]
        refine wpAnyH_take (i := 7) (oi := { dst := Option.some 28, op := Go.Op.move (Go.Operand.tmp 8), type := 3, pos := "l09_commit.go:77", after := #[], guard := Option.none }) (v := ?_) rfl (by kernel_rfl) (by kernel_rfl) (by kernel_rfl) (fun _ _ _ h => h) (Or.inl ⟨by rfl, ?_⟩) hHeld ?_
        rotate_left
        · intro w hSw
          try dsimp only at hSw
          go_simp
          try (with_reducible rfl)
        simp only [Act.put, List.setIfInBounds_toArray, List.set_cons_zero, List.set_cons_succ]
        refine wpAnyH_take (i := 8) (oi := { dst := Option.some 29, op := Go.Op.indexAddr 32 (Go.Operand.tmp 27) (Go.Operand.tmp 28), type := 0, pos := "l09_commit.go:77", after := #[{ on := 6, ground := Go.Ground.data }, { on := 7, ground := Go.Ground.data }], guard := Option.none }) (v := ?_) rfl (by kernel_rfl) (by kernel_rfl) (by kernel_rfl) (fun _ _ _ h => h) (Or.inl ⟨by rfl, ?_⟩) hHeld ?_
        rotate_left
        · intro w hSw
          try dsimp only at hSw
          go_simp
          try (with_reducible rfl)
        simp only [Act.put, List.setIfInBounds_toArray, List.set_cons_zero, List.set_cons_succ]
        refine wpAnyH_take (i := 9) (oi := { dst := Option.some 30, op := Go.Op.load 3 (Go.Operand.tmp 29), type := 3, pos := "l09_commit.go:77", after := #[{ on := 8, ground := Go.Ground.data }], guard := Option.none }) (v := ?_) rfl (by kernel_rfl) (by kernel_rfl) (by kernel_rfl) (fun _ _ _ h => h) (Or.inl ⟨by rfl, ?_⟩) hHeld ?_
        rotate_left
        · intro w hSw
          try dsimp only at hSw
          go_simp
          try (with_reducible rfl)
        simp only [Act.put, List.setIfInBounds_toArray, List.set_cons_zero, List.set_cons_succ]
        refine wpAnyH_take (i := 11) (oi := { dst := Option.some 32, op := Go.Op.move (Go.Operand.tmp 2), type := 32, pos := "l09_commit.go:77", after := #[], guard := Option.none }) (v := ?_) rfl (by kernel_rfl) (by kernel_rfl) (by kernel_rfl) (fun _ _ _ h => h) (Or.inl ⟨by rfl, ?_⟩) hHeld ?_
        rotate_left
        · intro w hSw
          try dsimp only at hSw
          go_simp
          try (with_reducible rfl)
        simp only [Act.put, List.setIfInBounds_toArray, List.set_cons_zero, List.set_cons_succ]
        refine wpAnyH_take (i := 12) (oi := { dst := Option.some 33, op := Go.Op.move (Go.Operand.tmp 8), type := 3, pos := "l09_commit.go:77", after := #[], guard := Option.none }) (v := ?_) rfl (by kernel_rfl) (by kernel_rfl) (by kernel_rfl) (fun _ _ _ h => h) (Or.inl ⟨by rfl, ?_⟩) hHeld ?_
        rotate_left
        · intro w hSw
          try dsimp only at hSw
          go_simp
          try (with_reducible rfl)
        simp only [Act.put, List.setIfInBounds_toArray, List.set_cons_zero, List.set_cons_succ]
        refine wpAnyH_take (i := 13) (oi := { dst := Option.some 34, op := Go.Op.indexAddr 32 (Go.Operand.tmp 32) (Go.Operand.tmp 33), type := 0, pos := "l09_commit.go:77", after := #[{ on := 11, ground := Go.Ground.data }, { on := 12, ground := Go.Ground.data }], guard := Option.none }) (v := ?_) rfl (by kernel_rfl) (by kernel_rfl) (by kernel_rfl) (fun _ _ _ h => h) (Or.inl ⟨by rfl, ?_⟩) hHeld ?_
        rotate_left
        · intro w hSw
          try dsimp only at hSw
          go_simp
          try (with_reducible rfl)
        simp only [Act.put, List.setIfInBounds_toArray, List.set_cons_zero, List.set_cons_succ]
        refine wpAnyH_take (i := 14) (oi := { dst := Option.some 35, op := Go.Op.load 3 (Go.Operand.tmp 34), type := 3, pos := "l09_commit.go:77", after := #[{ on := 13, ground := Go.Ground.data }], guard := Option.none }) (v := ?_) rfl (by kernel_rfl) (by kernel_rfl) (by kernel_rfl) (fun _ _ _ h => h) (Or.inl ⟨by rfl, ?_⟩) hHeld ?_
        rotate_left
        · intro w hSw
          try dsimp only at hSw
          go_simp
          try (with_reducible rfl)
        simp only [Act.put, List.setIfInBounds_toArray, List.set_cons_zero, List.set_cons_succ]
        refine wpAnyH_ready (rs := [1, 10]) (by kernel_rfl) (by decide) ?_
        refine AllReadyH.cons (o := { dst := Option.some 22, op := Go.Op.load 27 (Go.Operand.tmp 21), type := 27, pos := "l09_commit.go:77", after := #[{ on := 0, ground := Go.Ground.data }], guard := Option.none }) rfl (fun K hK => ?_) (AllReadyH.cons (o := { dst := Option.some 31, op := Go.Op.load 29 (Go.Operand.tmp 7), type := 29, pos := "l09_commit.go:77", after := #[], guard := Option.none }) rfl (fun K hK => ?_) AllReadyH.nil)
        · have c3 := HYd.out.1.cell 3 rfl
          go_simp
          refine hK.out _ _ (sd) (fun hHeld => ?_)
          clear hK K
          try simp only [Act.put, List.setIfInBounds_toArray, List.set_cons_zero, List.set_cons_succ]
          refine wpAnyH_ready (rs := [10]) (by kernel_rfl) (by decide) ?_
          refine AllReadyH.cons (o := { dst := Option.some 31, op := Go.Op.load 29 (Go.Operand.tmp 7), type := 29, pos := "l09_commit.go:77", after := #[], guard := Option.none }) rfl (fun K hK => ?_) AllReadyH.nil
          have c0 := HYd.out.1.cell 0 rfl
          have c1 := HYd.out.1.cell 1 rfl
          have c2 := HYd.out.1.cell 2 rfl
          have c3 := HYd.out.1.cell 3 rfl
          go_simp
          refine hK.out _ _ (sd) (fun hHeld => ?_)
          clear hK K
          try simp only [Act.put, List.setIfInBounds_toArray, List.set_cons_zero, List.set_cons_succ]
          refine wpAnyH_ready (rs := [15]) (by kernel_rfl) (by decide) ?_
          refine AllReadyH.cons (o := { dst := Option.some 36, op := Go.Op.call { callee := Go.Callee.value (Go.Operand.func 32), args := #[Go.Operand.tmp 31, Go.Operand.tmp 35], argTypes := #[29, 3] }, type := 65, pos := "l09_commit.go:77", after := #[{ on := 10, ground := Go.Ground.data }, { on := 14, ground := Go.Ground.data }], guard := Option.none }) rfl (fun K hK => ?_) AllReadyH.nil
          go_simp
          go_at_call 32
          refine (k9 _ _ _).mono ?_
          rintro e w6 ⟨rfl, b6⟩
          have HY6 : Hid (RC w1 w6 w1.heap.size ⟨h, rd, I, l⟩ (.slice qa l.length qc)) := HYd.out.below b6
          have s6 := HCk.out _ HY6.out.2.2
          clear b6
          refine hK.out _ _ (s6) (fun hHeld => ?_)
          clear hK K
          try simp only [Act.put, List.setIfInBounds_toArray, List.set_cons_zero, List.set_cons_succ]
          refine wpAnyH_ready (rs := [16]) (by kernel_rfl) (by decide) ?_
          refine AllReadyH.cons (o := { dst := Option.some 37, op := Go.Op.call { callee := Go.Callee.value (Go.Operand.func 68), args := #[Go.Operand.tmp 36], argTypes := #[65] }, type := 9, pos := "l09_commit.go:77", after := #[{ on := 15, ground := Go.Ground.data }, { on := 15, ground := Go.Ground.chain }], guard := Option.none }) rfl (fun K hK => ?_) AllReadyH.nil
          go_simp
          go_at_call 68
          refine (kD _).mono ?_
          rintro e w7 ⟨rfl, b7⟩
          have HY7 : Hid (RC w1 w7 w1.heap.size ⟨h, rd, I, l⟩ (.slice qa l.length qc)) := HY6.out.below b7
          have s7 := HCk.out _ HY7.out.2.2
          clear b7
          refine hK.out _ _ (s7) (fun hHeld => ?_)
          clear hK K
          try simp only [Act.put, List.setIfInBounds_toArray, List.set_cons_zero, List.set_cons_succ]
          refine wpAnyH_ready (rs := [17]) (by kernel_rfl) (by decide) ?_
          refine AllReadyH.cons (o := { dst := Option.some 38, op := Go.Op.call { callee := Go.Callee.value (Go.Operand.func 67), args := #[Go.Operand.tmp 30, Go.Operand.tmp 37], argTypes := #[3, 9] }, type := 9, pos := "l09_commit.go:77", after := #[{ on := 9, ground := Go.Ground.data }, { on := 16, ground := Go.Ground.data }, { on := 16, ground := Go.Ground.chain }], guard := Option.none }) rfl (fun K hK => ?_) AllReadyH.nil
          go_simp
          go_at_call 67
          refine (kG _).mono ?_
          rintro e w8 ⟨rfl, b8⟩
          have HY8 : Hid (RC w1 w8 w1.heap.size ⟨h, rd, I, l⟩ (.slice qa l.length qc)) := HY7.out.below b8
          have s0 := HCk.out _ HY8.out.2.2
          clear b8
          refine hK.out _ _ (s0) (fun hHeld => ?_)
          clear hK K
          try simp only [Act.put, List.setIfInBounds_toArray, List.set_cons_zero, List.set_cons_succ]
          refine wpAnyH_take (i := 18) (oi := { dst := Option.some 39, op := Go.Op.build 62 #[(0, Go.Operand.tmp 26), (1, Go.Operand.tmp 38)], type := 62, pos := "l09_commit.go:77", after := #[{ on := 5, ground := Go.Ground.data }, { on := 17, ground := Go.Ground.data }], guard := Option.none }) (v := ?_) rfl (by kernel_rfl) (by kernel_rfl) (by kernel_rfl) (fun _ _ _ h => h) (Or.inl ⟨by rfl, ?_⟩) hHeld ?_
          rotate_left
          · intro w hSw
            try dsimp only at hSw
            go_simp
            try (with_reducible rfl)
          simp only [Act.put, List.setIfInBounds_toArray, List.set_cons_zero, List.set_cons_succ]
          refine wpAnyH_ready (rs := [19]) (by kernel_rfl) (by decide) ?_
          refine AllReadyH.cons (o := { dst := Option.some 40, op := Go.Op.buildSlice 27 1 #[(0, Go.Operand.tmp 39)], type := 27, pos := "l09_commit.go:77", after := #[{ on := 18, ground := Go.Ground.data }], guard := Option.none }) rfl (fun K hK => ?_) AllReadyH.nil
          have HA8 : Hid (Below w8.heap.size w8 (w8.alloc (.cells #[.int .i64 z, .string S] 62))) := below_one _ _
          have HYa : Hid (RC w1 (w8.alloc (.cells #[.int .i64 z, .string S] 62)) w1.heap.size ⟨h, rd, I, l⟩ (.slice qa l.length qc)) := HY8.out.below HA8.out
          have s8 := HCk.out _ HYa.out.2.2
          go_simp
          refine hK.out _ _ (s8) (fun hHeld => ?_)
          clear hK K
          try simp only [Act.put, List.setIfInBounds_toArray, List.set_cons_zero, List.set_cons_succ]
          refine wpAnyH_ready (rs := [20]) (by kernel_rfl) (by decide) ?_
          refine AllReadyH.cons (o := { dst := Option.some 41, op := Go.Op.call { callee := Go.Callee.builtin Go.Builtin.append, args := #[Go.Operand.tmp 22, Go.Operand.tmp 40], argTypes := #[27, 27] }, type := 27, pos := "l09_commit.go:77", after := #[{ on := 1, ground := Go.Ground.data }, { on := 19, ground := Go.Ground.data }, { on := 17, ground := Go.Ground.chain }], guard := Option.none }) rfl (fun K hK => ?_) AllReadyH.nil
          have HO8 : Hid (OwnS (w8.alloc (.cells #[.int .i64 z, .string S] 62)) (w1.heap.size + 1) (.slice qa l.length qc) l) := HYa.out.2.1
          have HC8 : Hid (_) := one_sg w8 ⟨z, S⟩ w8.heap.size rfl
          have hg8 : w1.heap.size < w8.heap.size := HY8.out.1.lt
          refine step_append_row (by rfl) _ _ 27 (by rfl) (w1.heap.size + 1) 62 i0 (.agg #[.int .i64 0, .string ⟨#[]⟩]) 2 24 Tryz.underlying27 hinf hz0 hz1 hz2 rfl (by decide) _ _ _ (by rfl) HO8.out ⟨w8.heap.size, 0, none⟩ 1 1 (sgs [⟨z, S⟩]) (by rfl) (by rfl) HC8.out (sgs_one _) (by unfold maxLen; omega) (by omega) (by simp; omega) ?_
          intro v9 w9 hown9 hgrow9 _
          obtain ⟨a9, c9, rfl⟩ := own_shape hown9
          have HX9 : Hid (Blk w9 w1.heap.size [.int .i64 h, .int .i64 rd, .string I, .slice qa l.length qc] 29) := HYa.out.1.grown hgrow9 (fun e => by have := (HYa.out.2.1.lt _ e).1; omega)
          have HF : Hid (RC w1 (w9.setCell ⟨w1.heap.size, 3, none⟩ (.slice a9 (l.length + 1) c9)) w1.heap.size ⟨h, rd, I, l ++ [⟨z, S⟩]⟩ (.slice a9 (l.length + 1) c9)) := HY8.out.app HA8.out hgrow9 hown9
          have s9 : w9.cell? ⟨b, o + k, none⟩ = some (.int .i64 z) := by
            have q9 := hgrow9.block b (by simp; omega) (fun e => by have := (HY8.out.2.1.lt _ e.symm).1; omega)
            rw [World.cell?_of_block (a := ⟨b, o + k, none⟩) q9]; exact s8
          have s10 := HCk.out _ HF.out.2.2
          clear hown9 hgrow9
          refine hK.out _ _ (s9) (fun hHeld => ?_)
          clear hK K
          try simp only [Act.put, List.setIfInBounds_toArray, List.set_cons_zero, List.set_cons_succ]
          refine wpAnyH_take (i := 21) (oi := { dst := Option.some 42, op := Go.Op.fieldAddr 29 (Go.Operand.tmp 7) 3, type := 0, pos := "l09_commit.go:77", after := #[{ on := 0, ground := Go.Ground.phase }, { on := 1, ground := Go.Ground.phase }, { on := 2, ground := Go.Ground.phase }, { on := 3, ground := Go.Ground.phase }, { on := 4, ground := Go.Ground.phase }, { on := 5, ground := Go.Ground.phase }, { on := 6, ground := Go.Ground.phase }, { on := 7, ground := Go.Ground.phase }, { on := 8, ground := Go.Ground.phase }, { on := 9, ground := Go.Ground.phase }, { on := 10, ground := Go.Ground.phase }, { on := 11, ground := Go.Ground.phase }, { on := 12, ground := Go.Ground.phase }, { on := 13, ground := Go.Ground.phase }, { on := 14, ground := Go.Ground.phase }, { on := 15, ground := Go.Ground.phase }, { on := 16, ground := Go.Ground.phase }, { on := 17, ground := Go.Ground.phase }, { on := 18, ground := Go.Ground.phase }, { on := 19, ground := Go.Ground.phase }, { on := 20, ground := Go.Ground.phase }], guard := Option.none }) (v := ?_) rfl (by kernel_rfl) (by kernel_rfl) (by kernel_rfl) (fun _ _ _ h => h) (Or.inl ⟨by rfl, ?_⟩) hHeld ?_
          rotate_left
          · intro w hSw
            try dsimp only at hSw
            go_simp
            try (with_reducible rfl)
          simp only [Act.put, List.setIfInBounds_toArray, List.set_cons_zero, List.set_cons_succ]
          refine wpAnyH_ready (rs := [22]) (by kernel_rfl) (by decide) ?_
          refine AllReadyH.cons (o := { dst := Option.none, op := Go.Op.store 27 (Go.Operand.tmp 42) (Go.Operand.tmp 41), type := 0, pos := "l09_commit.go:77", after := #[{ on := 21, ground := Go.Ground.data }, { on := 20, ground := Go.Ground.data }, { on := 20, ground := Go.Ground.chain }, { on := 0, ground := Go.Ground.phase }, { on := 1, ground := Go.Ground.phase }, { on := 2, ground := Go.Ground.phase }, { on := 3, ground := Go.Ground.phase }, { on := 4, ground := Go.Ground.phase }, { on := 5, ground := Go.Ground.phase }, { on := 6, ground := Go.Ground.phase }, { on := 7, ground := Go.Ground.phase }, { on := 8, ground := Go.Ground.phase }, { on := 9, ground := Go.Ground.phase }, { on := 10, ground := Go.Ground.phase }, { on := 11, ground := Go.Ground.phase }, { on := 12, ground := Go.Ground.phase }, { on := 13, ground := Go.Ground.phase }, { on := 14, ground := Go.Ground.phase }, { on := 15, ground := Go.Ground.phase }, { on := 16, ground := Go.Ground.phase }, { on := 17, ground := Go.Ground.phase }, { on := 18, ground := Go.Ground.phase }, { on := 19, ground := Go.Ground.phase }, { on := 20, ground := Go.Ground.phase }], guard := Option.none }) rfl (fun K hK => ?_) AllReadyH.nil
          have x9 := HX9.out.cell 3 rfl
          have f9 := HX9.out.frozen 3
          go_simp
          refine hK.out _ _ (s10) (fun hHeld => ?_)
          clear hK K
          try simp only [Act.put, List.setIfInBounds_toArray, List.set_cons_zero, List.set_cons_succ]
          refine wpAnyH_done (by kernel_rfl) ?_ _
          go_wp2
          go_roundw
          case rel =>
            have R : ∃ (k' : Nat) (l' : List Sg) (q' : Value), k' ≤ ids.length ∧ Value.int .i64 ((k : Int) + 1) = .int .i64 k' ∧ Hid (l'.length = k' ∧ ∀ z ∈ l', z.s.size ≤ 8) ∧ Hid (RC w1 (w9.setCell ⟨w1.heap.size, 3, none⟩ (.slice a9 (l.length + 1) c9)) w1.heap.size ⟨h, rd, I, l'⟩ q') := ⟨k + 1, l ++ [⟨z, S⟩], _, by omega, by go_num, ⟨by simp; exact HLn.out.1, fun y hy => by (rcases List.mem_append.1 hy with hy | hy; exact HLn.out.2 y hy; simp at hy; subst hy; exact hgs)⟩, HF⟩
            first | exact R | ((repeat apply Exists.intro); exact ⟨R, rfl⟩)
          case measure => simp [intOf]; omega
        · have c0 := HYd.out.1.cell 0 rfl
          have c1 := HYd.out.1.cell 1 rfl
          have c2 := HYd.out.1.cell 2 rfl
          have c3 := HYd.out.1.cell 3 rfl
          go_simp
          refine hK.out _ _ (sd) (fun hHeld => ?_)
          clear hK K
          try simp only [Act.put, List.setIfInBounds_toArray, List.set_cons_zero, List.set_cons_succ]
          refine wpAnyH_ready (rs := [1, 15]) (by kernel_rfl) (by decide) ?_
          refine AllReadyH.cons (o := { dst := Option.some 22, op := Go.Op.load 27 (Go.Operand.tmp 21), type := 27, pos := "l09_commit.go:77", after := #[{ on := 0, ground := Go.Ground.data }], guard := Option.none }) rfl (fun K hK => ?_) (AllReadyH.cons (o := { dst := Option.some 36, op := Go.Op.call { callee := Go.Callee.value (Go.Operand.func 32), args := #[Go.Operand.tmp 31, Go.Operand.tmp 35], argTypes := #[29, 3] }, type := 65, pos := "l09_commit.go:77", after := #[{ on := 10, ground := Go.Ground.data }, { on := 14, ground := Go.Ground.data }], guard := Option.none }) rfl (fun K hK => ?_) AllReadyH.nil)
          · have c3 := HYd.out.1.cell 3 rfl
            go_simp
            refine hK.out _ _ (sd) (fun hHeld => ?_)
            clear hK K
            try simp only [Act.put, List.setIfInBounds_toArray, List.set_cons_zero, List.set_cons_succ]
            refine wpAnyH_ready (rs := [15]) (by kernel_rfl) (by decide) ?_
            refine AllReadyH.cons (o := { dst := Option.some 36, op := Go.Op.call { callee := Go.Callee.value (Go.Operand.func 32), args := #[Go.Operand.tmp 31, Go.Operand.tmp 35], argTypes := #[29, 3] }, type := 65, pos := "l09_commit.go:77", after := #[{ on := 10, ground := Go.Ground.data }, { on := 14, ground := Go.Ground.data }], guard := Option.none }) rfl (fun K hK => ?_) AllReadyH.nil
            go_simp
            go_at_call 32
            refine (k9 _ _ _).mono ?_
            rintro e w6 ⟨rfl, b6⟩
            have HY6 : Hid (RC w1 w6 w1.heap.size ⟨h, rd, I, l⟩ (.slice qa l.length qc)) := HYd.out.below b6
            have s6 := HCk.out _ HY6.out.2.2
            clear b6
            refine hK.out _ _ (s6) (fun hHeld => ?_)
            clear hK K
            try simp only [Act.put, List.setIfInBounds_toArray, List.set_cons_zero, List.set_cons_succ]
            refine wpAnyH_ready (rs := [16]) (by kernel_rfl) (by decide) ?_
            refine AllReadyH.cons (o := { dst := Option.some 37, op := Go.Op.call { callee := Go.Callee.value (Go.Operand.func 68), args := #[Go.Operand.tmp 36], argTypes := #[65] }, type := 9, pos := "l09_commit.go:77", after := #[{ on := 15, ground := Go.Ground.data }, { on := 15, ground := Go.Ground.chain }], guard := Option.none }) rfl (fun K hK => ?_) AllReadyH.nil
            go_simp
            go_at_call 68
            refine (kD _).mono ?_
            rintro e w7 ⟨rfl, b7⟩
            have HY7 : Hid (RC w1 w7 w1.heap.size ⟨h, rd, I, l⟩ (.slice qa l.length qc)) := HY6.out.below b7
            have s7 := HCk.out _ HY7.out.2.2
            clear b7
            refine hK.out _ _ (s7) (fun hHeld => ?_)
            clear hK K
            try simp only [Act.put, List.setIfInBounds_toArray, List.set_cons_zero, List.set_cons_succ]
            refine wpAnyH_ready (rs := [17]) (by kernel_rfl) (by decide) ?_
            refine AllReadyH.cons (o := { dst := Option.some 38, op := Go.Op.call { callee := Go.Callee.value (Go.Operand.func 67), args := #[Go.Operand.tmp 30, Go.Operand.tmp 37], argTypes := #[3, 9] }, type := 9, pos := "l09_commit.go:77", after := #[{ on := 9, ground := Go.Ground.data }, { on := 16, ground := Go.Ground.data }, { on := 16, ground := Go.Ground.chain }], guard := Option.none }) rfl (fun K hK => ?_) AllReadyH.nil
            go_simp
            go_at_call 67
            refine (kG _).mono ?_
            rintro e w8 ⟨rfl, b8⟩
            have HY8 : Hid (RC w1 w8 w1.heap.size ⟨h, rd, I, l⟩ (.slice qa l.length qc)) := HY7.out.below b8
            have s0 := HCk.out _ HY8.out.2.2
            clear b8
            refine hK.out _ _ (s0) (fun hHeld => ?_)
            clear hK K
            try simp only [Act.put, List.setIfInBounds_toArray, List.set_cons_zero, List.set_cons_succ]
            refine wpAnyH_take (i := 18) (oi := { dst := Option.some 39, op := Go.Op.build 62 #[(0, Go.Operand.tmp 26), (1, Go.Operand.tmp 38)], type := 62, pos := "l09_commit.go:77", after := #[{ on := 5, ground := Go.Ground.data }, { on := 17, ground := Go.Ground.data }], guard := Option.none }) (v := ?_) rfl (by kernel_rfl) (by kernel_rfl) (by kernel_rfl) (fun _ _ _ h => h) (Or.inl ⟨by rfl, ?_⟩) hHeld ?_
            rotate_left
            · intro w hSw
              try dsimp only at hSw
              go_simp
              try (with_reducible rfl)
            simp only [Act.put, List.setIfInBounds_toArray, List.set_cons_zero, List.set_cons_succ]
            refine wpAnyH_ready (rs := [19]) (by kernel_rfl) (by decide) ?_
            refine AllReadyH.cons (o := { dst := Option.some 40, op := Go.Op.buildSlice 27 1 #[(0, Go.Operand.tmp 39)], type := 27, pos := "l09_commit.go:77", after := #[{ on := 18, ground := Go.Ground.data }], guard := Option.none }) rfl (fun K hK => ?_) AllReadyH.nil
            have HA8 : Hid (Below w8.heap.size w8 (w8.alloc (.cells #[.int .i64 z, .string S] 62))) := below_one _ _
            have HYa : Hid (RC w1 (w8.alloc (.cells #[.int .i64 z, .string S] 62)) w1.heap.size ⟨h, rd, I, l⟩ (.slice qa l.length qc)) := HY8.out.below HA8.out
            have s8 := HCk.out _ HYa.out.2.2
            go_simp
            refine hK.out _ _ (s8) (fun hHeld => ?_)
            clear hK K
            try simp only [Act.put, List.setIfInBounds_toArray, List.set_cons_zero, List.set_cons_succ]
            refine wpAnyH_ready (rs := [20]) (by kernel_rfl) (by decide) ?_
            refine AllReadyH.cons (o := { dst := Option.some 41, op := Go.Op.call { callee := Go.Callee.builtin Go.Builtin.append, args := #[Go.Operand.tmp 22, Go.Operand.tmp 40], argTypes := #[27, 27] }, type := 27, pos := "l09_commit.go:77", after := #[{ on := 1, ground := Go.Ground.data }, { on := 19, ground := Go.Ground.data }, { on := 17, ground := Go.Ground.chain }], guard := Option.none }) rfl (fun K hK => ?_) AllReadyH.nil
            have HO8 : Hid (OwnS (w8.alloc (.cells #[.int .i64 z, .string S] 62)) (w1.heap.size + 1) (.slice qa l.length qc) l) := HYa.out.2.1
            have HC8 : Hid (_) := one_sg w8 ⟨z, S⟩ w8.heap.size rfl
            have hg8 : w1.heap.size < w8.heap.size := HY8.out.1.lt
            refine step_append_row (by rfl) _ _ 27 (by rfl) (w1.heap.size + 1) 62 i0 (.agg #[.int .i64 0, .string ⟨#[]⟩]) 2 24 Tryz.underlying27 hinf hz0 hz1 hz2 rfl (by decide) _ _ _ (by rfl) HO8.out ⟨w8.heap.size, 0, none⟩ 1 1 (sgs [⟨z, S⟩]) (by rfl) (by rfl) HC8.out (sgs_one _) (by unfold maxLen; omega) (by omega) (by simp; omega) ?_
            intro v9 w9 hown9 hgrow9 _
            obtain ⟨a9, c9, rfl⟩ := own_shape hown9
            have HX9 : Hid (Blk w9 w1.heap.size [.int .i64 h, .int .i64 rd, .string I, .slice qa l.length qc] 29) := HYa.out.1.grown hgrow9 (fun e => by have := (HYa.out.2.1.lt _ e).1; omega)
            have HF : Hid (RC w1 (w9.setCell ⟨w1.heap.size, 3, none⟩ (.slice a9 (l.length + 1) c9)) w1.heap.size ⟨h, rd, I, l ++ [⟨z, S⟩]⟩ (.slice a9 (l.length + 1) c9)) := HY8.out.app HA8.out hgrow9 hown9
            have s9 : w9.cell? ⟨b, o + k, none⟩ = some (.int .i64 z) := by
              have q9 := hgrow9.block b (by simp; omega) (fun e => by have := (HY8.out.2.1.lt _ e.symm).1; omega)
              rw [World.cell?_of_block (a := ⟨b, o + k, none⟩) q9]; exact s8
            have s10 := HCk.out _ HF.out.2.2
            clear hown9 hgrow9
            refine hK.out _ _ (s9) (fun hHeld => ?_)
            clear hK K
            try simp only [Act.put, List.setIfInBounds_toArray, List.set_cons_zero, List.set_cons_succ]
            refine wpAnyH_take (i := 21) (oi := { dst := Option.some 42, op := Go.Op.fieldAddr 29 (Go.Operand.tmp 7) 3, type := 0, pos := "l09_commit.go:77", after := #[{ on := 0, ground := Go.Ground.phase }, { on := 1, ground := Go.Ground.phase }, { on := 2, ground := Go.Ground.phase }, { on := 3, ground := Go.Ground.phase }, { on := 4, ground := Go.Ground.phase }, { on := 5, ground := Go.Ground.phase }, { on := 6, ground := Go.Ground.phase }, { on := 7, ground := Go.Ground.phase }, { on := 8, ground := Go.Ground.phase }, { on := 9, ground := Go.Ground.phase }, { on := 10, ground := Go.Ground.phase }, { on := 11, ground := Go.Ground.phase }, { on := 12, ground := Go.Ground.phase }, { on := 13, ground := Go.Ground.phase }, { on := 14, ground := Go.Ground.phase }, { on := 15, ground := Go.Ground.phase }, { on := 16, ground := Go.Ground.phase }, { on := 17, ground := Go.Ground.phase }, { on := 18, ground := Go.Ground.phase }, { on := 19, ground := Go.Ground.phase }, { on := 20, ground := Go.Ground.phase }], guard := Option.none }) (v := ?_) rfl (by kernel_rfl) (by kernel_rfl) (by kernel_rfl) (fun _ _ _ h => h) (Or.inl ⟨by rfl, ?_⟩) hHeld ?_
            rotate_left
            · intro w hSw
              try dsimp only at hSw
              go_simp
              try (with_reducible rfl)
            simp only [Act.put, List.setIfInBounds_toArray, List.set_cons_zero, List.set_cons_succ]
            refine wpAnyH_ready (rs := [22]) (by kernel_rfl) (by decide) ?_
            refine AllReadyH.cons (o := { dst := Option.none, op := Go.Op.store 27 (Go.Operand.tmp 42) (Go.Operand.tmp 41), type := 0, pos := "l09_commit.go:77", after := #[{ on := 21, ground := Go.Ground.data }, { on := 20, ground := Go.Ground.data }, { on := 20, ground := Go.Ground.chain }, { on := 0, ground := Go.Ground.phase }, { on := 1, ground := Go.Ground.phase }, { on := 2, ground := Go.Ground.phase }, { on := 3, ground := Go.Ground.phase }, { on := 4, ground := Go.Ground.phase }, { on := 5, ground := Go.Ground.phase }, { on := 6, ground := Go.Ground.phase }, { on := 7, ground := Go.Ground.phase }, { on := 8, ground := Go.Ground.phase }, { on := 9, ground := Go.Ground.phase }, { on := 10, ground := Go.Ground.phase }, { on := 11, ground := Go.Ground.phase }, { on := 12, ground := Go.Ground.phase }, { on := 13, ground := Go.Ground.phase }, { on := 14, ground := Go.Ground.phase }, { on := 15, ground := Go.Ground.phase }, { on := 16, ground := Go.Ground.phase }, { on := 17, ground := Go.Ground.phase }, { on := 18, ground := Go.Ground.phase }, { on := 19, ground := Go.Ground.phase }, { on := 20, ground := Go.Ground.phase }], guard := Option.none }) rfl (fun K hK => ?_) AllReadyH.nil
            have x9 := HX9.out.cell 3 rfl
            have f9 := HX9.out.frozen 3
            go_simp
            refine hK.out _ _ (s10) (fun hHeld => ?_)
            clear hK K
            try simp only [Act.put, List.setIfInBounds_toArray, List.set_cons_zero, List.set_cons_succ]
            refine wpAnyH_done (by kernel_rfl) ?_ _
            go_wp2
            go_roundw
            case rel =>
              have R : ∃ (k' : Nat) (l' : List Sg) (q' : Value), k' ≤ ids.length ∧ Value.int .i64 ((k : Int) + 1) = .int .i64 k' ∧ Hid (l'.length = k' ∧ ∀ z ∈ l', z.s.size ≤ 8) ∧ Hid (RC w1 (w9.setCell ⟨w1.heap.size, 3, none⟩ (.slice a9 (l.length + 1) c9)) w1.heap.size ⟨h, rd, I, l'⟩ q') := ⟨k + 1, l ++ [⟨z, S⟩], _, by omega, by go_num, ⟨by simp; exact HLn.out.1, fun y hy => by (rcases List.mem_append.1 hy with hy | hy; exact HLn.out.2 y hy; simp at hy; subst hy; exact hgs)⟩, HF⟩
              first | exact R | ((repeat apply Exists.intro); exact ⟨R, rfl⟩)
            case measure => simp [intOf]; omega
          · go_simp
            go_at_call 32
            refine (k9 _ _ _).mono ?_
            rintro e w6 ⟨rfl, b6⟩
            have HY6 : Hid (RC w1 w6 w1.heap.size ⟨h, rd, I, l⟩ (.slice qa l.length qc)) := HYd.out.below b6
            have s6 := HCk.out _ HY6.out.2.2
            clear b6
            refine hK.out _ _ (s6) (fun hHeld => ?_)
            clear hK K
            try simp only [Act.put, List.setIfInBounds_toArray, List.set_cons_zero, List.set_cons_succ]
            refine wpAnyH_ready (rs := [1, 16]) (by kernel_rfl) (by decide) ?_
            refine AllReadyH.cons (o := { dst := Option.some 22, op := Go.Op.load 27 (Go.Operand.tmp 21), type := 27, pos := "l09_commit.go:77", after := #[{ on := 0, ground := Go.Ground.data }], guard := Option.none }) rfl (fun K hK => ?_) (AllReadyH.cons (o := { dst := Option.some 37, op := Go.Op.call { callee := Go.Callee.value (Go.Operand.func 68), args := #[Go.Operand.tmp 36], argTypes := #[65] }, type := 9, pos := "l09_commit.go:77", after := #[{ on := 15, ground := Go.Ground.data }, { on := 15, ground := Go.Ground.chain }], guard := Option.none }) rfl (fun K hK => ?_) AllReadyH.nil)
            · have c3 := HY6.out.1.cell 3 rfl
              go_simp
              refine hK.out _ _ (s6) (fun hHeld => ?_)
              clear hK K
              try simp only [Act.put, List.setIfInBounds_toArray, List.set_cons_zero, List.set_cons_succ]
              refine wpAnyH_ready (rs := [16]) (by kernel_rfl) (by decide) ?_
              refine AllReadyH.cons (o := { dst := Option.some 37, op := Go.Op.call { callee := Go.Callee.value (Go.Operand.func 68), args := #[Go.Operand.tmp 36], argTypes := #[65] }, type := 9, pos := "l09_commit.go:77", after := #[{ on := 15, ground := Go.Ground.data }, { on := 15, ground := Go.Ground.chain }], guard := Option.none }) rfl (fun K hK => ?_) AllReadyH.nil
              go_simp
              go_at_call 68
              refine (kD _).mono ?_
              rintro e w7 ⟨rfl, b7⟩
              have HY7 : Hid (RC w1 w7 w1.heap.size ⟨h, rd, I, l⟩ (.slice qa l.length qc)) := HY6.out.below b7
              have s7 := HCk.out _ HY7.out.2.2
              clear b7
              refine hK.out _ _ (s7) (fun hHeld => ?_)
              clear hK K
              try simp only [Act.put, List.setIfInBounds_toArray, List.set_cons_zero, List.set_cons_succ]
              refine wpAnyH_ready (rs := [17]) (by kernel_rfl) (by decide) ?_
              refine AllReadyH.cons (o := { dst := Option.some 38, op := Go.Op.call { callee := Go.Callee.value (Go.Operand.func 67), args := #[Go.Operand.tmp 30, Go.Operand.tmp 37], argTypes := #[3, 9] }, type := 9, pos := "l09_commit.go:77", after := #[{ on := 9, ground := Go.Ground.data }, { on := 16, ground := Go.Ground.data }, { on := 16, ground := Go.Ground.chain }], guard := Option.none }) rfl (fun K hK => ?_) AllReadyH.nil
              go_simp
              go_at_call 67
              refine (kG _).mono ?_
              rintro e w8 ⟨rfl, b8⟩
              have HY8 : Hid (RC w1 w8 w1.heap.size ⟨h, rd, I, l⟩ (.slice qa l.length qc)) := HY7.out.below b8
              have s0 := HCk.out _ HY8.out.2.2
              clear b8
              refine hK.out _ _ (s0) (fun hHeld => ?_)
              clear hK K
              try simp only [Act.put, List.setIfInBounds_toArray, List.set_cons_zero, List.set_cons_succ]
              refine wpAnyH_take (i := 18) (oi := { dst := Option.some 39, op := Go.Op.build 62 #[(0, Go.Operand.tmp 26), (1, Go.Operand.tmp 38)], type := 62, pos := "l09_commit.go:77", after := #[{ on := 5, ground := Go.Ground.data }, { on := 17, ground := Go.Ground.data }], guard := Option.none }) (v := ?_) rfl (by kernel_rfl) (by kernel_rfl) (by kernel_rfl) (fun _ _ _ h => h) (Or.inl ⟨by rfl, ?_⟩) hHeld ?_
              rotate_left
              · intro w hSw
                try dsimp only at hSw
                go_simp
                try (with_reducible rfl)
              simp only [Act.put, List.setIfInBounds_toArray, List.set_cons_zero, List.set_cons_succ]
              refine wpAnyH_ready (rs := [19]) (by kernel_rfl) (by decide) ?_
              refine AllReadyH.cons (o := { dst := Option.some 40, op := Go.Op.buildSlice 27 1 #[(0, Go.Operand.tmp 39)], type := 27, pos := "l09_commit.go:77", after := #[{ on := 18, ground := Go.Ground.data }], guard := Option.none }) rfl (fun K hK => ?_) AllReadyH.nil
              have HA8 : Hid (Below w8.heap.size w8 (w8.alloc (.cells #[.int .i64 z, .string S] 62))) := below_one _ _
              have HYa : Hid (RC w1 (w8.alloc (.cells #[.int .i64 z, .string S] 62)) w1.heap.size ⟨h, rd, I, l⟩ (.slice qa l.length qc)) := HY8.out.below HA8.out
              have s8 := HCk.out _ HYa.out.2.2
              go_simp
              refine hK.out _ _ (s8) (fun hHeld => ?_)
              clear hK K
              try simp only [Act.put, List.setIfInBounds_toArray, List.set_cons_zero, List.set_cons_succ]
              refine wpAnyH_ready (rs := [20]) (by kernel_rfl) (by decide) ?_
              refine AllReadyH.cons (o := { dst := Option.some 41, op := Go.Op.call { callee := Go.Callee.builtin Go.Builtin.append, args := #[Go.Operand.tmp 22, Go.Operand.tmp 40], argTypes := #[27, 27] }, type := 27, pos := "l09_commit.go:77", after := #[{ on := 1, ground := Go.Ground.data }, { on := 19, ground := Go.Ground.data }, { on := 17, ground := Go.Ground.chain }], guard := Option.none }) rfl (fun K hK => ?_) AllReadyH.nil
              have HO8 : Hid (OwnS (w8.alloc (.cells #[.int .i64 z, .string S] 62)) (w1.heap.size + 1) (.slice qa l.length qc) l) := HYa.out.2.1
              have HC8 : Hid (_) := one_sg w8 ⟨z, S⟩ w8.heap.size rfl
              have hg8 : w1.heap.size < w8.heap.size := HY8.out.1.lt
              refine step_append_row (by rfl) _ _ 27 (by rfl) (w1.heap.size + 1) 62 i0 (.agg #[.int .i64 0, .string ⟨#[]⟩]) 2 24 Tryz.underlying27 hinf hz0 hz1 hz2 rfl (by decide) _ _ _ (by rfl) HO8.out ⟨w8.heap.size, 0, none⟩ 1 1 (sgs [⟨z, S⟩]) (by rfl) (by rfl) HC8.out (sgs_one _) (by unfold maxLen; omega) (by omega) (by simp; omega) ?_
              intro v9 w9 hown9 hgrow9 _
              obtain ⟨a9, c9, rfl⟩ := own_shape hown9
              have HX9 : Hid (Blk w9 w1.heap.size [.int .i64 h, .int .i64 rd, .string I, .slice qa l.length qc] 29) := HYa.out.1.grown hgrow9 (fun e => by have := (HYa.out.2.1.lt _ e).1; omega)
              have HF : Hid (RC w1 (w9.setCell ⟨w1.heap.size, 3, none⟩ (.slice a9 (l.length + 1) c9)) w1.heap.size ⟨h, rd, I, l ++ [⟨z, S⟩]⟩ (.slice a9 (l.length + 1) c9)) := HY8.out.app HA8.out hgrow9 hown9
              have s9 : w9.cell? ⟨b, o + k, none⟩ = some (.int .i64 z) := by
                have q9 := hgrow9.block b (by simp; omega) (fun e => by have := (HY8.out.2.1.lt _ e.symm).1; omega)
                rw [World.cell?_of_block (a := ⟨b, o + k, none⟩) q9]; exact s8
              have s10 := HCk.out _ HF.out.2.2
              clear hown9 hgrow9
              refine hK.out _ _ (s9) (fun hHeld => ?_)
              clear hK K
              try simp only [Act.put, List.setIfInBounds_toArray, List.set_cons_zero, List.set_cons_succ]
              refine wpAnyH_take (i := 21) (oi := { dst := Option.some 42, op := Go.Op.fieldAddr 29 (Go.Operand.tmp 7) 3, type := 0, pos := "l09_commit.go:77", after := #[{ on := 0, ground := Go.Ground.phase }, { on := 1, ground := Go.Ground.phase }, { on := 2, ground := Go.Ground.phase }, { on := 3, ground := Go.Ground.phase }, { on := 4, ground := Go.Ground.phase }, { on := 5, ground := Go.Ground.phase }, { on := 6, ground := Go.Ground.phase }, { on := 7, ground := Go.Ground.phase }, { on := 8, ground := Go.Ground.phase }, { on := 9, ground := Go.Ground.phase }, { on := 10, ground := Go.Ground.phase }, { on := 11, ground := Go.Ground.phase }, { on := 12, ground := Go.Ground.phase }, { on := 13, ground := Go.Ground.phase }, { on := 14, ground := Go.Ground.phase }, { on := 15, ground := Go.Ground.phase }, { on := 16, ground := Go.Ground.phase }, { on := 17, ground := Go.Ground.phase }, { on := 18, ground := Go.Ground.phase }, { on := 19, ground := Go.Ground.phase }, { on := 20, ground := Go.Ground.phase }], guard := Option.none }) (v := ?_) rfl (by kernel_rfl) (by kernel_rfl) (by kernel_rfl) (fun _ _ _ h => h) (Or.inl ⟨by rfl, ?_⟩) hHeld ?_
              rotate_left
              · intro w hSw
                try dsimp only at hSw
                go_simp
                try (with_reducible rfl)
              simp only [Act.put, List.setIfInBounds_toArray, List.set_cons_zero, List.set_cons_succ]
              refine wpAnyH_ready (rs := [22]) (by kernel_rfl) (by decide) ?_
              refine AllReadyH.cons (o := { dst := Option.none, op := Go.Op.store 27 (Go.Operand.tmp 42) (Go.Operand.tmp 41), type := 0, pos := "l09_commit.go:77", after := #[{ on := 21, ground := Go.Ground.data }, { on := 20, ground := Go.Ground.data }, { on := 20, ground := Go.Ground.chain }, { on := 0, ground := Go.Ground.phase }, { on := 1, ground := Go.Ground.phase }, { on := 2, ground := Go.Ground.phase }, { on := 3, ground := Go.Ground.phase }, { on := 4, ground := Go.Ground.phase }, { on := 5, ground := Go.Ground.phase }, { on := 6, ground := Go.Ground.phase }, { on := 7, ground := Go.Ground.phase }, { on := 8, ground := Go.Ground.phase }, { on := 9, ground := Go.Ground.phase }, { on := 10, ground := Go.Ground.phase }, { on := 11, ground := Go.Ground.phase }, { on := 12, ground := Go.Ground.phase }, { on := 13, ground := Go.Ground.phase }, { on := 14, ground := Go.Ground.phase }, { on := 15, ground := Go.Ground.phase }, { on := 16, ground := Go.Ground.phase }, { on := 17, ground := Go.Ground.phase }, { on := 18, ground := Go.Ground.phase }, { on := 19, ground := Go.Ground.phase }, { on := 20, ground := Go.Ground.phase }], guard := Option.none }) rfl (fun K hK => ?_) AllReadyH.nil
              have x9 := HX9.out.cell 3 rfl
              have f9 := HX9.out.frozen 3
              go_simp
              refine hK.out _ _ (s10) (fun hHeld => ?_)
              clear hK K
              try simp only [Act.put, List.setIfInBounds_toArray, List.set_cons_zero, List.set_cons_succ]
              refine wpAnyH_done (by kernel_rfl) ?_ _
              go_wp2
              go_roundw
              case rel =>
                have R : ∃ (k' : Nat) (l' : List Sg) (q' : Value), k' ≤ ids.length ∧ Value.int .i64 ((k : Int) + 1) = .int .i64 k' ∧ Hid (l'.length = k' ∧ ∀ z ∈ l', z.s.size ≤ 8) ∧ Hid (RC w1 (w9.setCell ⟨w1.heap.size, 3, none⟩ (.slice a9 (l.length + 1) c9)) w1.heap.size ⟨h, rd, I, l'⟩ q') := ⟨k + 1, l ++ [⟨z, S⟩], _, by omega, by go_num, ⟨by simp; exact HLn.out.1, fun y hy => by (rcases List.mem_append.1 hy with hy | hy; exact HLn.out.2 y hy; simp at hy; subst hy; exact hgs)⟩, HF⟩
                first | exact R | ((repeat apply Exists.intro); exact ⟨R, rfl⟩)
              case measure => simp [intOf]; omega
            · go_simp
              go_at_call 68
              refine (kD _).mono ?_
              rintro e w7 ⟨rfl, b7⟩
              have HY7 : Hid (RC w1 w7 w1.heap.size ⟨h, rd, I, l⟩ (.slice qa l.length qc)) := HY6.out.below b7
              have s7 := HCk.out _ HY7.out.2.2
              clear b7
              refine hK.out _ _ (s7) (fun hHeld => ?_)
              clear hK K
              try simp only [Act.put, List.setIfInBounds_toArray, List.set_cons_zero, List.set_cons_succ]
              refine wpAnyH_ready (rs := [1, 17]) (by kernel_rfl) (by decide) ?_
              refine AllReadyH.cons (o := { dst := Option.some 22, op := Go.Op.load 27 (Go.Operand.tmp 21), type := 27, pos := "l09_commit.go:77", after := #[{ on := 0, ground := Go.Ground.data }], guard := Option.none }) rfl (fun K hK => ?_) (AllReadyH.cons (o := { dst := Option.some 38, op := Go.Op.call { callee := Go.Callee.value (Go.Operand.func 67), args := #[Go.Operand.tmp 30, Go.Operand.tmp 37], argTypes := #[3, 9] }, type := 9, pos := "l09_commit.go:77", after := #[{ on := 9, ground := Go.Ground.data }, { on := 16, ground := Go.Ground.data }, { on := 16, ground := Go.Ground.chain }], guard := Option.none }) rfl (fun K hK => ?_) AllReadyH.nil)
              · have c3 := HY7.out.1.cell 3 rfl
                go_simp
                refine hK.out _ _ (s7) (fun hHeld => ?_)
                clear hK K
                try simp only [Act.put, List.setIfInBounds_toArray, List.set_cons_zero, List.set_cons_succ]
                refine wpAnyH_ready (rs := [17]) (by kernel_rfl) (by decide) ?_
                refine AllReadyH.cons (o := { dst := Option.some 38, op := Go.Op.call { callee := Go.Callee.value (Go.Operand.func 67), args := #[Go.Operand.tmp 30, Go.Operand.tmp 37], argTypes := #[3, 9] }, type := 9, pos := "l09_commit.go:77", after := #[{ on := 9, ground := Go.Ground.data }, { on := 16, ground := Go.Ground.data }, { on := 16, ground := Go.Ground.chain }], guard := Option.none }) rfl (fun K hK => ?_) AllReadyH.nil
                go_simp
                go_at_call 67
                refine (kG _).mono ?_
                rintro e w8 ⟨rfl, b8⟩
                have HY8 : Hid (RC w1 w8 w1.heap.size ⟨h, rd, I, l⟩ (.slice qa l.length qc)) := HY7.out.below b8
                have s0 := HCk.out _ HY8.out.2.2
                clear b8
                refine hK.out _ _ (s0) (fun hHeld => ?_)
                clear hK K
                try simp only [Act.put, List.setIfInBounds_toArray, List.set_cons_zero, List.set_cons_succ]
                refine wpAnyH_take (i := 18) (oi := { dst := Option.some 39, op := Go.Op.build 62 #[(0, Go.Operand.tmp 26), (1, Go.Operand.tmp 38)], type := 62, pos := "l09_commit.go:77", after := #[{ on := 5, ground := Go.Ground.data }, { on := 17, ground := Go.Ground.data }], guard := Option.none }) (v := ?_) rfl (by kernel_rfl) (by kernel_rfl) (by kernel_rfl) (fun _ _ _ h => h) (Or.inl ⟨by rfl, ?_⟩) hHeld ?_
                rotate_left
                · intro w hSw
                  try dsimp only at hSw
                  go_simp
                  try (with_reducible rfl)
                simp only [Act.put, List.setIfInBounds_toArray, List.set_cons_zero, List.set_cons_succ]
                refine wpAnyH_ready (rs := [19]) (by kernel_rfl) (by decide) ?_
                refine AllReadyH.cons (o := { dst := Option.some 40, op := Go.Op.buildSlice 27 1 #[(0, Go.Operand.tmp 39)], type := 27, pos := "l09_commit.go:77", after := #[{ on := 18, ground := Go.Ground.data }], guard := Option.none }) rfl (fun K hK => ?_) AllReadyH.nil
                have HA8 : Hid (Below w8.heap.size w8 (w8.alloc (.cells #[.int .i64 z, .string S] 62))) := below_one _ _
                have HYa : Hid (RC w1 (w8.alloc (.cells #[.int .i64 z, .string S] 62)) w1.heap.size ⟨h, rd, I, l⟩ (.slice qa l.length qc)) := HY8.out.below HA8.out
                have s8 := HCk.out _ HYa.out.2.2
                go_simp
                refine hK.out _ _ (s8) (fun hHeld => ?_)
                clear hK K
                try simp only [Act.put, List.setIfInBounds_toArray, List.set_cons_zero, List.set_cons_succ]
                refine wpAnyH_ready (rs := [20]) (by kernel_rfl) (by decide) ?_
                refine AllReadyH.cons (o := { dst := Option.some 41, op := Go.Op.call { callee := Go.Callee.builtin Go.Builtin.append, args := #[Go.Operand.tmp 22, Go.Operand.tmp 40], argTypes := #[27, 27] }, type := 27, pos := "l09_commit.go:77", after := #[{ on := 1, ground := Go.Ground.data }, { on := 19, ground := Go.Ground.data }, { on := 17, ground := Go.Ground.chain }], guard := Option.none }) rfl (fun K hK => ?_) AllReadyH.nil
                have HO8 : Hid (OwnS (w8.alloc (.cells #[.int .i64 z, .string S] 62)) (w1.heap.size + 1) (.slice qa l.length qc) l) := HYa.out.2.1
                have HC8 : Hid (_) := one_sg w8 ⟨z, S⟩ w8.heap.size rfl
                have hg8 : w1.heap.size < w8.heap.size := HY8.out.1.lt
                refine step_append_row (by rfl) _ _ 27 (by rfl) (w1.heap.size + 1) 62 i0 (.agg #[.int .i64 0, .string ⟨#[]⟩]) 2 24 Tryz.underlying27 hinf hz0 hz1 hz2 rfl (by decide) _ _ _ (by rfl) HO8.out ⟨w8.heap.size, 0, none⟩ 1 1 (sgs [⟨z, S⟩]) (by rfl) (by rfl) HC8.out (sgs_one _) (by unfold maxLen; omega) (by omega) (by simp; omega) ?_
                intro v9 w9 hown9 hgrow9 _
                obtain ⟨a9, c9, rfl⟩ := own_shape hown9
                have HX9 : Hid (Blk w9 w1.heap.size [.int .i64 h, .int .i64 rd, .string I, .slice qa l.length qc] 29) := HYa.out.1.grown hgrow9 (fun e => by have := (HYa.out.2.1.lt _ e).1; omega)
                have HF : Hid (RC w1 (w9.setCell ⟨w1.heap.size, 3, none⟩ (.slice a9 (l.length + 1) c9)) w1.heap.size ⟨h, rd, I, l ++ [⟨z, S⟩]⟩ (.slice a9 (l.length + 1) c9)) := HY8.out.app HA8.out hgrow9 hown9
                have s9 : w9.cell? ⟨b, o + k, none⟩ = some (.int .i64 z) := by
                  have q9 := hgrow9.block b (by simp; omega) (fun e => by have := (HY8.out.2.1.lt _ e.symm).1; omega)
                  rw [World.cell?_of_block (a := ⟨b, o + k, none⟩) q9]; exact s8
                have s10 := HCk.out _ HF.out.2.2
                clear hown9 hgrow9
                refine hK.out _ _ (s9) (fun hHeld => ?_)
                clear hK K
                try simp only [Act.put, List.setIfInBounds_toArray, List.set_cons_zero, List.set_cons_succ]
                refine wpAnyH_take (i := 21) (oi := { dst := Option.some 42, op := Go.Op.fieldAddr 29 (Go.Operand.tmp 7) 3, type := 0, pos := "l09_commit.go:77", after := #[{ on := 0, ground := Go.Ground.phase }, { on := 1, ground := Go.Ground.phase }, { on := 2, ground := Go.Ground.phase }, { on := 3, ground := Go.Ground.phase }, { on := 4, ground := Go.Ground.phase }, { on := 5, ground := Go.Ground.phase }, { on := 6, ground := Go.Ground.phase }, { on := 7, ground := Go.Ground.phase }, { on := 8, ground := Go.Ground.phase }, { on := 9, ground := Go.Ground.phase }, { on := 10, ground := Go.Ground.phase }, { on := 11, ground := Go.Ground.phase }, { on := 12, ground := Go.Ground.phase }, { on := 13, ground := Go.Ground.phase }, { on := 14, ground := Go.Ground.phase }, { on := 15, ground := Go.Ground.phase }, { on := 16, ground := Go.Ground.phase }, { on := 17, ground := Go.Ground.phase }, { on := 18, ground := Go.Ground.phase }, { on := 19, ground := Go.Ground.phase }, { on := 20, ground := Go.Ground.phase }], guard := Option.none }) (v := ?_) rfl (by kernel_rfl) (by kernel_rfl) (by kernel_rfl) (fun _ _ _ h => h) (Or.inl ⟨by rfl, ?_⟩) hHeld ?_
                rotate_left
                · intro w hSw
                  try dsimp only at hSw
                  go_simp
                  try (with_reducible rfl)
                simp only [Act.put, List.setIfInBounds_toArray, List.set_cons_zero, List.set_cons_succ]
                refine wpAnyH_ready (rs := [22]) (by kernel_rfl) (by decide) ?_
                refine AllReadyH.cons (o := { dst := Option.none, op := Go.Op.store 27 (Go.Operand.tmp 42) (Go.Operand.tmp 41), type := 0, pos := "l09_commit.go:77", after := #[{ on := 21, ground := Go.Ground.data }, { on := 20, ground := Go.Ground.data }, { on := 20, ground := Go.Ground.chain }, { on := 0, ground := Go.Ground.phase }, { on := 1, ground := Go.Ground.phase }, { on := 2, ground := Go.Ground.phase }, { on := 3, ground := Go.Ground.phase }, { on := 4, ground := Go.Ground.phase }, { on := 5, ground := Go.Ground.phase }, { on := 6, ground := Go.Ground.phase }, { on := 7, ground := Go.Ground.phase }, { on := 8, ground := Go.Ground.phase }, { on := 9, ground := Go.Ground.phase }, { on := 10, ground := Go.Ground.phase }, { on := 11, ground := Go.Ground.phase }, { on := 12, ground := Go.Ground.phase }, { on := 13, ground := Go.Ground.phase }, { on := 14, ground := Go.Ground.phase }, { on := 15, ground := Go.Ground.phase }, { on := 16, ground := Go.Ground.phase }, { on := 17, ground := Go.Ground.phase }, { on := 18, ground := Go.Ground.phase }, { on := 19, ground := Go.Ground.phase }, { on := 20, ground := Go.Ground.phase }], guard := Option.none }) rfl (fun K hK => ?_) AllReadyH.nil
                have x9 := HX9.out.cell 3 rfl
                have f9 := HX9.out.frozen 3
                go_simp
                refine hK.out _ _ (s10) (fun hHeld => ?_)
                clear hK K
                try simp only [Act.put, List.setIfInBounds_toArray, List.set_cons_zero, List.set_cons_succ]
                refine wpAnyH_done (by kernel_rfl) ?_ _
                go_wp2
                go_roundw
                case rel =>
                  have R : ∃ (k' : Nat) (l' : List Sg) (q' : Value), k' ≤ ids.length ∧ Value.int .i64 ((k : Int) + 1) = .int .i64 k' ∧ Hid (l'.length = k' ∧ ∀ z ∈ l', z.s.size ≤ 8) ∧ Hid (RC w1 (w9.setCell ⟨w1.heap.size, 3, none⟩ (.slice a9 (l.length + 1) c9)) w1.heap.size ⟨h, rd, I, l'⟩ q') := ⟨k + 1, l ++ [⟨z, S⟩], _, by omega, by go_num, ⟨by simp; exact HLn.out.1, fun y hy => by (rcases List.mem_append.1 hy with hy | hy; exact HLn.out.2 y hy; simp at hy; subst hy; exact hgs)⟩, HF⟩
                  first | exact R | ((repeat apply Exists.intro); exact ⟨R, rfl⟩)
                case measure => simp [intOf]; omega
              · go_simp
                go_at_call 67
                refine (kG _).mono ?_
                rintro e w8 ⟨rfl, b8⟩
                have HY8 : Hid (RC w1 w8 w1.heap.size ⟨h, rd, I, l⟩ (.slice qa l.length qc)) := HY7.out.below b8
                have s0 := HCk.out _ HY8.out.2.2
                clear b8
                refine hK.out _ _ (s0) (fun hHeld => ?_)
                clear hK K
                try simp only [Act.put, List.setIfInBounds_toArray, List.set_cons_zero, List.set_cons_succ]
                refine wpAnyH_take (i := 18) (oi := { dst := Option.some 39, op := Go.Op.build 62 #[(0, Go.Operand.tmp 26), (1, Go.Operand.tmp 38)], type := 62, pos := "l09_commit.go:77", after := #[{ on := 5, ground := Go.Ground.data }, { on := 17, ground := Go.Ground.data }], guard := Option.none }) (v := ?_) rfl (by kernel_rfl) (by kernel_rfl) (by kernel_rfl) (fun _ _ _ h => h) (Or.inl ⟨by rfl, ?_⟩) hHeld ?_
                rotate_left
                · intro w hSw
                  try dsimp only at hSw
                  go_simp
                  try (with_reducible rfl)
                simp only [Act.put, List.setIfInBounds_toArray, List.set_cons_zero, List.set_cons_succ]
                refine wpAnyH_ready (rs := [1, 19]) (by kernel_rfl) (by decide) ?_
                refine AllReadyH.cons (o := { dst := Option.some 22, op := Go.Op.load 27 (Go.Operand.tmp 21), type := 27, pos := "l09_commit.go:77", after := #[{ on := 0, ground := Go.Ground.data }], guard := Option.none }) rfl (fun K hK => ?_) (AllReadyH.cons (o := { dst := Option.some 40, op := Go.Op.buildSlice 27 1 #[(0, Go.Operand.tmp 39)], type := 27, pos := "l09_commit.go:77", after := #[{ on := 18, ground := Go.Ground.data }], guard := Option.none }) rfl (fun K hK => ?_) AllReadyH.nil)
                · have c3 := HY8.out.1.cell 3 rfl
                  go_simp
                  refine hK.out _ _ (s0) (fun hHeld => ?_)
                  clear hK K
                  try simp only [Act.put, List.setIfInBounds_toArray, List.set_cons_zero, List.set_cons_succ]
                  refine wpAnyH_ready (rs := [19]) (by kernel_rfl) (by decide) ?_
                  refine AllReadyH.cons (o := { dst := Option.some 40, op := Go.Op.buildSlice 27 1 #[(0, Go.Operand.tmp 39)], type := 27, pos := "l09_commit.go:77", after := #[{ on := 18, ground := Go.Ground.data }], guard := Option.none }) rfl (fun K hK => ?_) AllReadyH.nil
                  have HA8 : Hid (Below w8.heap.size w8 (w8.alloc (.cells #[.int .i64 z, .string S] 62))) := below_one _ _
                  have HYa : Hid (RC w1 (w8.alloc (.cells #[.int .i64 z, .string S] 62)) w1.heap.size ⟨h, rd, I, l⟩ (.slice qa l.length qc)) := HY8.out.below HA8.out
                  have s8 := HCk.out _ HYa.out.2.2
                  go_simp
                  refine hK.out _ _ (s8) (fun hHeld => ?_)
                  clear hK K
                  try simp only [Act.put, List.setIfInBounds_toArray, List.set_cons_zero, List.set_cons_succ]
                  refine wpAnyH_ready (rs := [20]) (by kernel_rfl) (by decide) ?_
                  refine AllReadyH.cons (o := { dst := Option.some 41, op := Go.Op.call { callee := Go.Callee.builtin Go.Builtin.append, args := #[Go.Operand.tmp 22, Go.Operand.tmp 40], argTypes := #[27, 27] }, type := 27, pos := "l09_commit.go:77", after := #[{ on := 1, ground := Go.Ground.data }, { on := 19, ground := Go.Ground.data }, { on := 17, ground := Go.Ground.chain }], guard := Option.none }) rfl (fun K hK => ?_) AllReadyH.nil
                  have HO8 : Hid (OwnS (w8.alloc (.cells #[.int .i64 z, .string S] 62)) (w1.heap.size + 1) (.slice qa l.length qc) l) := HYa.out.2.1
                  have HC8 : Hid (_) := one_sg w8 ⟨z, S⟩ w8.heap.size rfl
                  have hg8 : w1.heap.size < w8.heap.size := HY8.out.1.lt
                  refine step_append_row (by rfl) _ _ 27 (by rfl) (w1.heap.size + 1) 62 i0 (.agg #[.int .i64 0, .string ⟨#[]⟩]) 2 24 Tryz.underlying27 hinf hz0 hz1 hz2 rfl (by decide) _ _ _ (by rfl) HO8.out ⟨w8.heap.size, 0, none⟩ 1 1 (sgs [⟨z, S⟩]) (by rfl) (by rfl) HC8.out (sgs_one _) (by unfold maxLen; omega) (by omega) (by simp; omega) ?_
                  intro v9 w9 hown9 hgrow9 _
                  obtain ⟨a9, c9, rfl⟩ := own_shape hown9
                  have HX9 : Hid (Blk w9 w1.heap.size [.int .i64 h, .int .i64 rd, .string I, .slice qa l.length qc] 29) := HYa.out.1.grown hgrow9 (fun e => by have := (HYa.out.2.1.lt _ e).1; omega)
                  have HF : Hid (RC w1 (w9.setCell ⟨w1.heap.size, 3, none⟩ (.slice a9 (l.length + 1) c9)) w1.heap.size ⟨h, rd, I, l ++ [⟨z, S⟩]⟩ (.slice a9 (l.length + 1) c9)) := HY8.out.app HA8.out hgrow9 hown9
                  have s9 : w9.cell? ⟨b, o + k, none⟩ = some (.int .i64 z) := by
                    have q9 := hgrow9.block b (by simp; omega) (fun e => by have := (HY8.out.2.1.lt _ e.symm).1; omega)
                    rw [World.cell?_of_block (a := ⟨b, o + k, none⟩) q9]; exact s8
                  have s10 := HCk.out _ HF.out.2.2
                  clear hown9 hgrow9
                  refine hK.out _ _ (s9) (fun hHeld => ?_)
                  clear hK K
                  try simp only [Act.put, List.setIfInBounds_toArray, List.set_cons_zero, List.set_cons_succ]
                  refine wpAnyH_take (i := 21) (oi := { dst := Option.some 42, op := Go.Op.fieldAddr 29 (Go.Operand.tmp 7) 3, type := 0, pos := "l09_commit.go:77", after := #[{ on := 0, ground := Go.Ground.phase }, { on := 1, ground := Go.Ground.phase }, { on := 2, ground := Go.Ground.phase }, { on := 3, ground := Go.Ground.phase }, { on := 4, ground := Go.Ground.phase }, { on := 5, ground := Go.Ground.phase }, { on := 6, ground := Go.Ground.phase }, { on := 7, ground := Go.Ground.phase }, { on := 8, ground := Go.Ground.phase }, { on := 9, ground := Go.Ground.phase }, { on := 10, ground := Go.Ground.phase }, { on := 11, ground := Go.Ground.phase }, { on := 12, ground := Go.Ground.phase }, { on := 13, ground := Go.Ground.phase }, { on := 14, ground := Go.Ground.phase }, { on := 15, ground := Go.Ground.phase }, { on := 16, ground := Go.Ground.phase }, { on := 17, ground := Go.Ground.phase }, { on := 18, ground := Go.Ground.phase }, { on := 19, ground := Go.Ground.phase }, { on := 20, ground := Go.Ground.phase }], guard := Option.none }) (v := ?_) rfl (by kernel_rfl) (by kernel_rfl) (by kernel_rfl) (fun _ _ _ h => h) (Or.inl ⟨by rfl, ?_⟩) hHeld ?_
                  rotate_left
                  · intro w hSw
                    try dsimp only at hSw
                    go_simp
                    try (with_reducible rfl)
                  simp only [Act.put, List.setIfInBounds_toArray, List.set_cons_zero, List.set_cons_succ]
                  refine wpAnyH_ready (rs := [22]) (by kernel_rfl) (by decide) ?_
                  refine AllReadyH.cons (o := { dst := Option.none, op := Go.Op.store 27 (Go.Operand.tmp 42) (Go.Operand.tmp 41), type := 0, pos := "l09_commit.go:77", after := #[{ on := 21, ground := Go.Ground.data }, { on := 20, ground := Go.Ground.data }, { on := 20, ground := Go.Ground.chain }, { on := 0, ground := Go.Ground.phase }, { on := 1, ground := Go.Ground.phase }, { on := 2, ground := Go.Ground.phase }, { on := 3, ground := Go.Ground.phase }, { on := 4, ground := Go.Ground.phase }, { on := 5, ground := Go.Ground.phase }, { on := 6, ground := Go.Ground.phase }, { on := 7, ground := Go.Ground.phase }, { on := 8, ground := Go.Ground.phase }, { on := 9, ground := Go.Ground.phase }, { on := 10, ground := Go.Ground.phase }, { on := 11, ground := Go.Ground.phase }, { on := 12, ground := Go.Ground.phase }, { on := 13, ground := Go.Ground.phase }, { on := 14, ground := Go.Ground.phase }, { on := 15, ground := Go.Ground.phase }, { on := 16, ground := Go.Ground.phase }, { on := 17, ground := Go.Ground.phase }, { on := 18, ground := Go.Ground.phase }, { on := 19, ground := Go.Ground.phase }, { on := 20, ground := Go.Ground.phase }], guard := Option.none }) rfl (fun K hK => ?_) AllReadyH.nil
                  have x9 := HX9.out.cell 3 rfl
                  have f9 := HX9.out.frozen 3
                  go_simp
                  refine hK.out _ _ (s10) (fun hHeld => ?_)
                  clear hK K
                  try simp only [Act.put, List.setIfInBounds_toArray, List.set_cons_zero, List.set_cons_succ]
                  refine wpAnyH_done (by kernel_rfl) ?_ _
                  go_wp2
                  go_roundw
                  case rel =>
                    have R : ∃ (k' : Nat) (l' : List Sg) (q' : Value), k' ≤ ids.length ∧ Value.int .i64 ((k : Int) + 1) = .int .i64 k' ∧ Hid (l'.length = k' ∧ ∀ z ∈ l', z.s.size ≤ 8) ∧ Hid (RC w1 (w9.setCell ⟨w1.heap.size, 3, none⟩ (.slice a9 (l.length + 1) c9)) w1.heap.size ⟨h, rd, I, l'⟩ q') := ⟨k + 1, l ++ [⟨z, S⟩], _, by omega, by go_num, ⟨by simp; exact HLn.out.1, fun y hy => by (rcases List.mem_append.1 hy with hy | hy; exact HLn.out.2 y hy; simp at hy; subst hy; exact hgs)⟩, HF⟩
                    first | exact R | ((repeat apply Exists.intro); exact ⟨R, rfl⟩)
                  case measure => simp [intOf]; omega
                · have HA8 : Hid (Below w8.heap.size w8 (w8.alloc (.cells #[.int .i64 z, .string S] 62))) := below_one _ _
                  have HYa : Hid (RC w1 (w8.alloc (.cells #[.int .i64 z, .string S] 62)) w1.heap.size ⟨h, rd, I, l⟩ (.slice qa l.length qc)) := HY8.out.below HA8.out
                  have s8 := HCk.out _ HYa.out.2.2
                  go_simp
                  refine hK.out _ _ (s8) (fun hHeld => ?_)
                  clear hK K
                  try simp only [Act.put, List.setIfInBounds_toArray, List.set_cons_zero, List.set_cons_succ]
                  refine wpAnyH_ready (rs := [1]) (by kernel_rfl) (by decide) ?_
                  refine AllReadyH.cons (o := { dst := Option.some 22, op := Go.Op.load 27 (Go.Operand.tmp 21), type := 27, pos := "l09_commit.go:77", after := #[{ on := 0, ground := Go.Ground.data }], guard := Option.none }) rfl (fun K hK => ?_) AllReadyH.nil
                  have c3 := HYa.out.1.cell 3 rfl
                  go_simp
                  refine hK.out _ _ (s8) (fun hHeld => ?_)
                  clear hK K
                  try simp only [Act.put, List.setIfInBounds_toArray, List.set_cons_zero, List.set_cons_succ]
                  refine wpAnyH_ready (rs := [20]) (by kernel_rfl) (by decide) ?_
                  refine AllReadyH.cons (o := { dst := Option.some 41, op := Go.Op.call { callee := Go.Callee.builtin Go.Builtin.append, args := #[Go.Operand.tmp 22, Go.Operand.tmp 40], argTypes := #[27, 27] }, type := 27, pos := "l09_commit.go:77", after := #[{ on := 1, ground := Go.Ground.data }, { on := 19, ground := Go.Ground.data }, { on := 17, ground := Go.Ground.chain }], guard := Option.none }) rfl (fun K hK => ?_) AllReadyH.nil
                  have HO8 : Hid (OwnS (w8.alloc (.cells #[.int .i64 z, .string S] 62)) (w1.heap.size + 1) (.slice qa l.length qc) l) := HYa.out.2.1
                  have HC8 : Hid (_) := one_sg w8 ⟨z, S⟩ w8.heap.size rfl
                  have hg8 : w1.heap.size < w8.heap.size := HY8.out.1.lt
                  refine step_append_row (by rfl) _ _ 27 (by rfl) (w1.heap.size + 1) 62 i0 (.agg #[.int .i64 0, .string ⟨#[]⟩]) 2 24 Tryz.underlying27 hinf hz0 hz1 hz2 rfl (by decide) _ _ _ (by rfl) HO8.out ⟨w8.heap.size, 0, none⟩ 1 1 (sgs [⟨z, S⟩]) (by rfl) (by rfl) HC8.out (sgs_one _) (by unfold maxLen; omega) (by omega) (by simp; omega) ?_
                  intro v9 w9 hown9 hgrow9 _
                  obtain ⟨a9, c9, rfl⟩ := own_shape hown9
                  have HX9 : Hid (Blk w9 w1.heap.size [.int .i64 h, .int .i64 rd, .string I, .slice qa l.length qc] 29) := HYa.out.1.grown hgrow9 (fun e => by have := (HYa.out.2.1.lt _ e).1; omega)
                  have HF : Hid (RC w1 (w9.setCell ⟨w1.heap.size, 3, none⟩ (.slice a9 (l.length + 1) c9)) w1.heap.size ⟨h, rd, I, l ++ [⟨z, S⟩]⟩ (.slice a9 (l.length + 1) c9)) := HY8.out.app HA8.out hgrow9 hown9
                  have s9 : w9.cell? ⟨b, o + k, none⟩ = some (.int .i64 z) := by
                    have q9 := hgrow9.block b (by simp; omega) (fun e => by have := (HY8.out.2.1.lt _ e.symm).1; omega)
                    rw [World.cell?_of_block (a := ⟨b, o + k, none⟩) q9]; exact s8
                  have s10 := HCk.out _ HF.out.2.2
                  clear hown9 hgrow9
                  refine hK.out _ _ (s9) (fun hHeld => ?_)
                  clear hK K
                  try simp only [Act.put, List.setIfInBounds_toArray, List.set_cons_zero, List.set_cons_succ]
                  refine wpAnyH_take (i := 21) (oi := { dst := Option.some 42, op := Go.Op.fieldAddr 29 (Go.Operand.tmp 7) 3, type := 0, pos := "l09_commit.go:77", after := #[{ on := 0, ground := Go.Ground.phase }, { on := 1, ground := Go.Ground.phase }, { on := 2, ground := Go.Ground.phase }, { on := 3, ground := Go.Ground.phase }, { on := 4, ground := Go.Ground.phase }, { on := 5, ground := Go.Ground.phase }, { on := 6, ground := Go.Ground.phase }, { on := 7, ground := Go.Ground.phase }, { on := 8, ground := Go.Ground.phase }, { on := 9, ground := Go.Ground.phase }, { on := 10, ground := Go.Ground.phase }, { on := 11, ground := Go.Ground.phase }, { on := 12, ground := Go.Ground.phase }, { on := 13, ground := Go.Ground.phase }, { on := 14, ground := Go.Ground.phase }, { on := 15, ground := Go.Ground.phase }, { on := 16, ground := Go.Ground.phase }, { on := 17, ground := Go.Ground.phase }, { on := 18, ground := Go.Ground.phase }, { on := 19, ground := Go.Ground.phase }, { on := 20, ground := Go.Ground.phase }], guard := Option.none }) (v := ?_) rfl (by kernel_rfl) (by kernel_rfl) (by kernel_rfl) (fun _ _ _ h => h) (Or.inl ⟨by rfl, ?_⟩) hHeld ?_
                  rotate_left
                  · intro w hSw
                    try dsimp only at hSw
                    go_simp
                    try (with_reducible rfl)
                  simp only [Act.put, List.setIfInBounds_toArray, List.set_cons_zero, List.set_cons_succ]
                  refine wpAnyH_ready (rs := [22]) (by kernel_rfl) (by decide) ?_
                  refine AllReadyH.cons (o := { dst := Option.none, op := Go.Op.store 27 (Go.Operand.tmp 42) (Go.Operand.tmp 41), type := 0, pos := "l09_commit.go:77", after := #[{ on := 21, ground := Go.Ground.data }, { on := 20, ground := Go.Ground.data }, { on := 20, ground := Go.Ground.chain }, { on := 0, ground := Go.Ground.phase }, { on := 1, ground := Go.Ground.phase }, { on := 2, ground := Go.Ground.phase }, { on := 3, ground := Go.Ground.phase }, { on := 4, ground := Go.Ground.phase }, { on := 5, ground := Go.Ground.phase }, { on := 6, ground := Go.Ground.phase }, { on := 7, ground := Go.Ground.phase }, { on := 8, ground := Go.Ground.phase }, { on := 9, ground := Go.Ground.phase }, { on := 10, ground := Go.Ground.phase }, { on := 11, ground := Go.Ground.phase }, { on := 12, ground := Go.Ground.phase }, { on := 13, ground := Go.Ground.phase }, { on := 14, ground := Go.Ground.phase }, { on := 15, ground := Go.Ground.phase }, { on := 16, ground := Go.Ground.phase }, { on := 17, ground := Go.Ground.phase }, { on := 18, ground := Go.Ground.phase }, { on := 19, ground := Go.Ground.phase }, { on := 20, ground := Go.Ground.phase }], guard := Option.none }) rfl (fun K hK => ?_) AllReadyH.nil
                  have x9 := HX9.out.cell 3 rfl
                  have f9 := HX9.out.frozen 3
                  go_simp
                  refine hK.out _ _ (s10) (fun hHeld => ?_)
                  clear hK K
                  try simp only [Act.put, List.setIfInBounds_toArray, List.set_cons_zero, List.set_cons_succ]
                  refine wpAnyH_done (by kernel_rfl) ?_ _
                  go_wp2
                  go_roundw
                  case rel =>
                    have R : ∃ (k' : Nat) (l' : List Sg) (q' : Value), k' ≤ ids.length ∧ Value.int .i64 ((k : Int) + 1) = .int .i64 k' ∧ Hid (l'.length = k' ∧ ∀ z ∈ l', z.s.size ≤ 8) ∧ Hid (RC w1 (w9.setCell ⟨w1.heap.size, 3, none⟩ (.slice a9 (l.length + 1) c9)) w1.heap.size ⟨h, rd, I, l'⟩ q') := ⟨k + 1, l ++ [⟨z, S⟩], _, by omega, by go_num, ⟨by simp; exact HLn.out.1, fun y hy => by (rcases List.mem_append.1 hy with hy | hy; exact HLn.out.2 y hy; simp at hy; subst hy; exact hgs)⟩, HF⟩
                    first | exact R | ((repeat apply Exists.intro); exact ⟨R, rfl⟩)
                  case measure => simp [intOf]; omega
      · have hlt0 : ¬ (k : Int) < (ids.length : Int) := by omega
        have hkl : k = ids.length := by omega
        subst hkl
        have x0 := HY.out.1.cell 0 rfl
        have x1 := HY.out.1.cell 1 rfl
        have x2 := HY.out.1.cell 2 rfl
        have x3 := HY.out.1.cell 3 rfl
        have HRr : Hid (Blk wr (w.heap.size + 1) [.int .i64 0, .int .i64 0, .string ⟨#[]⟩, .slice none 0 0] 29) := HR1.out.below HY.out.2.2 hww1
        have HBr : Hid (Below w.heap.size w wr) := HB1.out.trans (HY.out.2.2.mono HB1.out.size)
        have HO : Hid (OwnS wr (w1.heap.size + 1) q l) := HY.out.2.1
        obtain ⟨qa, qc, rfl⟩ := own_shape HO.out
        have HR5 := (((HRr.out.set 0 (.int .i64 h)).set 1 (.int .i64 rd)).set 2 (.string I)).set 3 (.slice qa l.length qc)
        have HB5 : Hid (Below w.heap.size w ((((wr.setCell ⟨w.heap.size + 1, 0, none⟩ (.int .i64 h)).setCell ⟨w.heap.size + 1, 1, none⟩ (.int .i64 rd)).setCell ⟨w.heap.size + 1, 2, none⟩ (.string I)).setCell ⟨w.heap.size + 1, 3, none⟩ (.slice qa l.length qc))) :=
          (((HBr.out.setCell (Nat.le_succ _) _).setCell (Nat.le_succ _) _).setCell (Nat.le_succ _) _).setCell (Nat.le_succ _) _
        have HO5 : Hid (OwnS ((((wr.setCell ⟨w.heap.size + 1, 0, none⟩ (.int .i64 h)).setCell ⟨w.heap.size + 1, 1, none⟩ (.int .i64 rd)).setCell ⟨w.heap.size + 1, 2, none⟩ (.string I)).setCell ⟨w.heap.size + 1, 3, none⟩ (.slice qa l.length qc)) w.heap.size (.slice qa l.length qc) l) :=
          own_setT (own_setT (own_setT (own_setT HO.out (Nat.le_refl _) (by omega)) (Nat.le_refl _) (by omega)) (Nat.le_refl _) (by omega)) (by omega) (by omega)
        have p0 := HRr.out.cell 0 rfl
        have p1 := HRr.out.cell 1 rfl
        have p2 := HRr.out.cell 2 rfl
        have p3 := HRr.out.cell 3 rfl
        have pf := fun j => HRr.out.frozen j
        go_wp2
        clear x0 x1 x2 x3 p0 p1 p2 p3
        have y0 := HR5.cell 0 rfl
        have y1 := HR5.cell 1 rfl
        have y2 := HR5.cell 2 rfl
        have y3 := HR5.cell 3 rfl
        refine bodyPost_ret (v := .agg #[.int .i64 h, .int .i64 rd, .string I, .slice qa l.length qc]) ?_ rfl ⟨l, _, rfl, HLn, HO5, HB5⟩
        generalize ((((wr.setCell _ _).setCell _ _).setCell _ _).setCell _ _ : World) = W at *
        clear HB5 HR5 HO5
        simp [results, Tryz.results48, go_sem, y0, y1, y2, y3]
end Go.Proofs.YtbpmjejmeaifbaaGreatDoor
