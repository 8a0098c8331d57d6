/- What spec.DrawCommitOk draws, as far as FnCommit asks; old memory stays. Conditions: a code of at most 2 to the 20 bytes. -/
import Derived.Test.YtbpmjejmeaifbaaGreatDoorS9
namespace Go.Proofs.YtbpmjejmeaifbaaGreatDoor
open Go.RowKit
open Num
set_option linter.unusedVariables false
theorem ds_at {w : World} {a : Option Addr} {L : List UInt8} {cap : Nat} (hl : CodeAt w w.heap.size a L) (hlen : L.length ≤ 1048576) (h0 : Int) :
    DS (w.alloc (.cells #[.slice a L.length cap, .int .i64 0, .int .i64 h0] 79)) w.heap.size (w.heap.size + 1) := by
  refine ⟨a, L, cap, ⟨0, h0⟩, hlen, heap_alloc_new _ _, CodeAt.kept hl (grown_alloc (grown_refl _ _) _), by omega, fun j hj => ?_⟩
  obtain ⟨b, off, e, hne, hc⟩ := hl j hj
  have := World.block_lt_of_cell? w _ hc
  exact ⟨b, off, e, by simp at this; omega⟩
theorem code_next {w : World} {a : Option Addr} {L : List UInt8} (hl : CodeAt w w.heap.size a L) (o : Obj) : CodeAt (w.alloc o) (w.alloc o).heap.size a L := by
  intro j hj
  obtain ⟨b, off, e, hne, hc⟩ := hl j hj
  have h1 : b < w.heap.size := World.block_lt_of_cell? w _ hc
  refine ⟨b, off, e, by simp; omega, ?_⟩
  rw [((Below.refl _ _).alloc (Nat.le_refl _) o : Below w.heap.size w (w.alloc o)).cell (p := ⟨b, off + j, none⟩) h1]; exact hc
/-- A cursor just made: it lies behind what lay. -/
theorem cur_d (a : Option Addr) (L : List UInt8) (cap : Nat) (w : World) (hl : CodeAt w w.heap.size a L) (hlen : L.length ≤ 1048576) :
    Calls Tryz.prog 22 #[.slice a L.length cap] w fun e w' => e = .returned (.pointer (some ⟨w.heap.size, 0, none⟩)) ∧ Hid (DS w' w.heap.size (w.heap.size + 1)) ∧ Hid (Below w.heap.size w w') ∧ w.heap.size + 1 ≤ w'.heap.size := by
  refine (new_any a L cap w hl hlen).mono ?_
  rintro e w1 ⟨rfl, hw1⟩
  refine ⟨rfl, ?_, ?_, ?_⟩
  · show DS _ _ _; rw [hw1]; exact ds_at hl hlen _
  · show Below _ _ _; rw [hw1]; exact below_one _ _
  · rw [hw1]; simp
theorem below_gr {w w' wx : World} {B : Nat} (h : Below B w w') (hs : B ≤ w'.heap.size) (hg : w'.grownBy wx (some B)) : Below B w wx :=
  h.grown hg hs (fun k e => by injection e; omega)
theorem code_below {w w' : World} {a : Option Addr} {L : List UInt8} (hl : CodeAt w w.heap.size a L) (hb : Below w.heap.size w w') : CodeAt w' w'.heap.size a L := by
  intro j hj
  obtain ⟨b, off, e, hne, hc⟩ := hl j hj
  have h1 : b < w.heap.size := World.block_lt_of_cell? w _ hc
  have h2 := hb.size
  refine ⟨b, off, e, by omega, ?_⟩
  rw [hb.cell (p := ⟨b, off + j, none⟩) h1]; exact hc
set_option maxHeartbeats 3200000 in
set_option maxRecDepth 100000 in
theorem draw_co (a : Option Addr) (L : List UInt8) (cap : Nat) (w : World) (hl : CodeAt w w.heap.size a L) (hlen : L.length ≤ 1048576) :
    Calls Tryz.prog 6 #[.slice a L.length cap] w fun e w' => ∃ (va : Option Addr) (vc : Nat) (l : List V) (y : H) (x : Ct) (xa : Option Addr) (xc : Nat), e = .returned (.tuple #[.slice va l.length vc, hV y, cV x xa xc]) ∧ Hid (VO w' va l ∧ l.length ≤ 8) ∧ Hid (DrH y) ∧ Hid (DrC x) ∧ Hid (SO w' xa x.l) ∧ Hid (Below w.heap.size w w') := by
  obtain ⟨w0, hw0⟩ : ∃ W, (w.alloc (.cells [.int .i64 0, .int .i64 0, .string ⟨#[]⟩, .string ⟨#[]⟩, .string ⟨#[]⟩, .string ⟨#[]⟩].toArray 26)).alloc (.cells [.int .i64 0, .int .i64 0, .string ⟨#[]⟩, .slice none 0 0].toArray 29) = W := ⟨_, rfl⟩
  have HP6 : Hid (Blk w0 w.heap.size [.int .i64 0, .int .i64 0, .string ⟨#[]⟩, .string ⟨#[]⟩, .string ⟨#[]⟩, .string ⟨#[]⟩] 26) := by rw [← hw0]; exact (blk_new w _ _).alloc _
  have HP4 : Hid (Blk w0 (w.heap.size + 1) [.int .i64 0, .int .i64 0, .string ⟨#[]⟩, .slice none 0 0] 29) := by
    rw [← hw0]
    have h := blk_new (w.alloc (.cells [.int .i64 0, .int .i64 0, .string ⟨#[]⟩, .string ⟨#[]⟩, .string ⟨#[]⟩, .string ⟨#[]⟩].toArray 26)) [.int .i64 0, .int .i64 0, .string ⟨#[]⟩, .slice none 0 0] 29
    rw [show (w.alloc (.cells [.int .i64 0, .int .i64 0, .string ⟨#[]⟩, .string ⟨#[]⟩, .string ⟨#[]⟩, .string ⟨#[]⟩].toArray 26)).heap.size = w.heap.size + 1 by simp] at h; exact h
  have HB0 : Hid (Below w.heap.size w w0) := by rw [← hw0]; exact below_two _ _ _
  have HL0 : Hid (CodeAt w0 w0.heap.size a L) := code_below hl HB0.out
  have hs0 : w.heap.size + 1 < w0.heap.size := HP4.out.lt
  clear hl
  go_enter Tryz.func6, Tryz.ntmps6
  go_wp2_with fail
  clear hw0
  refine (cur_d a L cap w0 HL0.out hlen).mono ?_
  rintro e w1 ⟨rfl, HD1, HB1, hs1⟩
  go_wp2_with fail
  refine (some9_d w0.heap.size (w0.heap.size + 1) w1 HD1.out hs1).mono ?_
  rintro e w2 ⟨va, vc, l, y, x, xa, xc, rfl, HV, HY, HX, HSO, HD2, HG2⟩
  have HB2 : Hid (Below w0.heap.size w0 w2) := below_gr HB1.out HB1.out.size HG2.out
  obtain ⟨yh, yt, ya, yv, yn, yd⟩ := y
  obtain ⟨xh, xr, xi, xl⟩ := x
  unfold hV cV
  simp only at HX HSO ⊢
  obtain ⟨w3, hw3⟩ : ∃ W, (w2.alloc (.cells [.int .i64 yh, .int .i64 yt, .string ya, .string yv, .string yn, .string yd].toArray 26)).alloc (.cells [.int .i64 xh, .int .i64 xr, .string xi, .slice xa xl.length xc].toArray 29) = W := ⟨_, rfl⟩
  have HX3 : Hid (Blk w3 (w2.heap.size + 1) [.int .i64 xh, .int .i64 xr, .string xi, .slice xa xl.length xc] 29) := by
    rw [← hw3]
    have h := blk_new (w2.alloc (.cells [.int .i64 yh, .int .i64 yt, .string ya, .string yv, .string yn, .string yd].toArray 26)) [.int .i64 xh, .int .i64 xr, .string xi, .slice xa xl.length xc] 29
    rw [show (w2.alloc (.cells [.int .i64 yh, .int .i64 yt, .string ya, .string yv, .string yn, .string yd].toArray 26)).heap.size = w2.heap.size + 1 by simp] at h; exact h
  have HY3 : Hid (Blk w3 w2.heap.size [.int .i64 yh, .int .i64 yt, .string ya, .string yv, .string yn, .string yd] 26) := by rw [← hw3]; exact (blk_new w2 _ _).alloc _
  have HB23 : Hid (Below w2.heap.size w2 w3) := by rw [← hw3]; exact below_two _ _ _
  have hs2 : w0.heap.size ≤ w2.heap.size := HB2.out.size
  have hs12 : w1.heap.size ≤ w2.heap.size := HG2.out.size
  have HB3 : Hid (Below w0.heap.size w0 w3) := HB2.out.trans (HB23.out.mono hs2)
  have HBw : Hid (Below w.heap.size w w3) := HB0.out.trans (HB3.out.mono (by omega))
  have HV3 : Hid (VO w3 va l ∧ l.length ≤ 8 ∧ ∀ b o, va = some ⟨b, o, none⟩ → w0.heap.size ≤ b) := ⟨HV.out.1.below HB23.out, HV.out.2.1, fun b o e => by have := HV.out.2.2 b o e; omega⟩
  have HS3 : Hid (SO w3 xa xl ∧ ∀ b o, xa = some ⟨b, o, none⟩ → w0.heap.size ≤ b) := ⟨SO.below HSO.out.1 HB23.out, fun b o e => by have := HSO.out.2 b o e; omega⟩
  have HQ6 : Hid (Blk w3 w.heap.size [.int .i64 0, .int .i64 0, .string ⟨#[]⟩, .string ⟨#[]⟩, .string ⟨#[]⟩, .string ⟨#[]⟩] 26) := HP6.out.below HB3.out HP6.out.lt
  have HQ4 : Hid (Blk w3 (w.heap.size + 1) [.int .i64 0, .int .i64 0, .string ⟨#[]⟩, .slice none 0 0] 29) := HP4.out.below HB3.out HP4.out.lt
  clear HD1 HB1 hs1 HG2 HD2 HV HSO HB2 HB23 HB3 HP6 HP4 HL0 HB0
  go_wp2_with fail
  clear hw3
  refine wp_region_held_drew (S := (fun W : World => (W.cell? ⟨w2.heap.size, 0, none⟩ = some (.int .i64 yh) ∧ W.cell? ⟨w2.heap.size, 1, none⟩ = some (.int .i64 yt) ∧ W.cell? ⟨w2.heap.size, 2, none⟩ = some (.string ya) ∧ W.cell? ⟨w2.heap.size, 3, none⟩ = some (.string yv) ∧ W.cell? ⟨w2.heap.size, 4, none⟩ = some (.string yn) ∧ W.cell? ⟨w2.heap.size, 5, none⟩ = some (.string yd)) ∧ W.cell? ⟨w2.heap.size + 1, 0, none⟩ = some (.int .i64 xh) ∧ W.cell? ⟨w2.heap.size + 1, 1, none⟩ = some (.int .i64 xr) ∧ W.cell? ⟨w2.heap.size + 1, 2, none⟩ = some (.string xi) ∧ W.cell? ⟨w2.heap.size + 1, 3, none⟩ = some (.slice xa xl.length xc))) (by kernel_rfl) ?_ (fun hHeld => ?_)
  · exact ⟨⟨(HY3.out).cell 0 rfl, (HY3.out).cell 1 rfl, (HY3.out).cell 2 rfl, (HY3.out).cell 3 rfl, (HY3.out).cell 4 rfl, (HY3.out).cell 5 rfl⟩, (HX3.out).cell 0 rfl, (HX3.out).cell 1 rfl, (HX3.out).cell 2 rfl, (HX3.out).cell 3 rfl⟩
  have HY3d : Hid (Blk w3.drew w2.heap.size [.int .i64 yh, .int .i64 yt, .string ya, .string yv, .string yn, .string yd] 26) := HY3.out
  have HX3d : Hid (Blk w3.drew (w2.heap.size + 1) [.int .i64 xh, .int .i64 xr, .string xi, .slice xa xl.length xc] 29) := HX3.out
  have HQ6d : Hid (Blk w3.drew w.heap.size [.int .i64 0, .int .i64 0, .string ⟨#[]⟩, .string ⟨#[]⟩, .string ⟨#[]⟩, .string ⟨#[]⟩] 26) := HQ6.out
  have HQ4d : Hid (Blk w3.drew (w.heap.size + 1) [.int .i64 0, .int .i64 0, .string ⟨#[]⟩, .slice none 0 0] 29) := HQ4.out
  have HVd : Hid (VO w3.drew va l ∧ l.length ≤ 8 ∧ ∀ b o, va = some ⟨b, o, none⟩ → w0.heap.size ≤ b) := HV3
  have HSd : Hid (SO w3.drew xa xl ∧ ∀ b o, xa = some ⟨b, o, none⟩ → w0.heap.size ≤ b) := HS3
  have HBd : Hid (Below w.heap.size w w3.drew) := HBw.out.drew
  clear HY3 HX3 HQ6 HQ4 HV3 HS3 HBw
  generalize w3.drew = wd at *
  refine wpAnyH_take (i := 0) (oi := { dst := Option.some 17, op := Go.Op.move (Go.Operand.tmp 6), type := 24, pos := "l09_commit.go:126", after := #[], guard := Option.none }) (v := ?_) rfl (by kernel_rfl) (by kernel_rfl) (by kernel_rfl) (fun _ _ _ h => h) (Or.inl ⟨by rfl, ?_⟩) hHeld ?_
  rotate_left
  · intro w hSw
    try dsimp only at hSw
    go_simp
    try (with_reducible rfl)
  simp only [Act.put, List.setIfInBounds_toArray, List.set_cons_zero, List.set_cons_succ]
  refine wpAnyH_take (i := 1) (oi := { dst := Option.some 18, op := Go.Op.load 26 (Go.Operand.tmp 7), type := 26, pos := "l09_commit.go:126", after := #[{ on := 3, ground := Go.Ground.gcOnly Go.Departure.lateStores }], guard := Option.none }) (v := ?_) rfl (by kernel_rfl) (by kernel_rfl) (by kernel_rfl) (fun _ _ _ h => h) (Or.inl ⟨by rfl, ?_⟩) hHeld ?_
  rotate_left
  · intro w hSw
    try dsimp only at hSw
    go_simp
    try (with_reducible rfl)
  simp only [Act.put, List.setIfInBounds_toArray, List.set_cons_zero, List.set_cons_succ]
  refine wpAnyH_take (i := 2) (oi := { dst := Option.some 19, op := Go.Op.load 29 (Go.Operand.tmp 8), type := 29, pos := "l09_commit.go:126", after := #[{ on := 4, ground := Go.Ground.gcOnly Go.Departure.lateStores }], guard := Option.none }) (v := ?_) rfl (by kernel_rfl) (by kernel_rfl) (by kernel_rfl) (fun _ _ _ h => h) (Or.inl ⟨by rfl, ?_⟩) hHeld ?_
  rotate_left
  · intro w hSw
    try dsimp only at hSw
    go_simp
    try (with_reducible rfl)
  simp only [Act.put, List.setIfInBounds_toArray, List.set_cons_zero, List.set_cons_succ]
  refine wpAnyH_take (i := 3) (oi := { dst := Option.some 2, op := Go.Op.assign (Go.Operand.tmp 17), type := 24, pos := "l09_commit.go:126", after := #[{ on := 0, ground := Go.Ground.data }, { on := 0, ground := Go.Ground.phase }, { on := 1, ground := Go.Ground.textOnly Go.Departure.lateStores }, { on := 2, ground := Go.Ground.textOnly Go.Departure.lateStores }], guard := Option.none }) (v := ?_) rfl (by kernel_rfl) (by kernel_rfl) (by kernel_rfl) (fun _ _ _ h => h) (Or.inl ⟨by rfl, ?_⟩) hHeld ?_
  rotate_left
  · intro w hSw
    try dsimp only at hSw
    go_simp
    try (with_reducible rfl)
  simp only [Act.put, List.setIfInBounds_toArray, List.set_cons_zero, List.set_cons_succ]
  refine wpAnyH_ready (rs := [4]) (by kernel_rfl) (by decide) ?_
  refine AllReadyH.cons (o := { dst := Option.none, op := Go.Op.store 26 (Go.Operand.tmp 3) (Go.Operand.tmp 18), type := 0, pos := "l09_commit.go:126", after := #[{ on := 1, ground := Go.Ground.data }, { on := 3, ground := Go.Ground.chain }, { on := 0, ground := Go.Ground.phase }, { on := 1, ground := Go.Ground.phase }, { on := 2, ground := Go.Ground.textOnly Go.Departure.lateStores }, { on := 3, ground := Go.Ground.phase }], guard := Option.none }) rfl (fun K hK => ?_) AllReadyH.nil
  have n1 : w2.heap.size ≠ w.heap.size := by omega
  have n2 : w2.heap.size + 1 ≠ w.heap.size := by omega
  have n3 : w.heap.size + 1 ≠ w.heap.size := by omega
  have HF6 : Hid (Blk ((((((wd.setCell ⟨w.heap.size, 0, none⟩ (.int .i64 yh)).setCell ⟨w.heap.size, 1, none⟩ (.int .i64 yt)).setCell ⟨w.heap.size, 2, none⟩ (.string ya)).setCell ⟨w.heap.size, 3, none⟩ (.string yv)).setCell ⟨w.heap.size, 4, none⟩ (.string yn)).setCell ⟨w.heap.size, 5, none⟩ (.string yd)) w2.heap.size [.int .i64 yh, .int .i64 yt, .string ya, .string yv, .string yn, .string yd] 26) := ((((((HY3d.out.other 0 (.int .i64 yh) n1).other 1 (.int .i64 yt) n1).other 2 (.string ya) n1).other 3 (.string yv) n1).other 4 (.string yn) n1).other 5 (.string yd) n1)
  have HF9 : Hid (Blk ((((((wd.setCell ⟨w.heap.size, 0, none⟩ (.int .i64 yh)).setCell ⟨w.heap.size, 1, none⟩ (.int .i64 yt)).setCell ⟨w.heap.size, 2, none⟩ (.string ya)).setCell ⟨w.heap.size, 3, none⟩ (.string yv)).setCell ⟨w.heap.size, 4, none⟩ (.string yn)).setCell ⟨w.heap.size, 5, none⟩ (.string yd)) (w2.heap.size + 1) [.int .i64 xh, .int .i64 xr, .string xi, .slice xa xl.length xc] 29) := ((((((HX3d.out.other 0 (.int .i64 yh) n2).other 1 (.int .i64 yt) n2).other 2 (.string ya) n2).other 3 (.string yv) n2).other 4 (.string yn) n2).other 5 (.string yd) n2)
  have HR6 : Hid (Blk ((((((wd.setCell ⟨w.heap.size, 0, none⟩ (.int .i64 yh)).setCell ⟨w.heap.size, 1, none⟩ (.int .i64 yt)).setCell ⟨w.heap.size, 2, none⟩ (.string ya)).setCell ⟨w.heap.size, 3, none⟩ (.string yv)).setCell ⟨w.heap.size, 4, none⟩ (.string yn)).setCell ⟨w.heap.size, 5, none⟩ (.string yd)) w.heap.size [.int .i64 yh, .int .i64 yt, .string ya, .string yv, .string yn, .string yd] 26) := ((((((HQ6d.out.set 0 (.int .i64 yh)).set 1 (.int .i64 yt)).set 2 (.string ya)).set 3 (.string yv)).set 4 (.string yn)).set 5 (.string yd))
  have HQ4a : Hid (Blk ((((((wd.setCell ⟨w.heap.size, 0, none⟩ (.int .i64 yh)).setCell ⟨w.heap.size, 1, none⟩ (.int .i64 yt)).setCell ⟨w.heap.size, 2, none⟩ (.string ya)).setCell ⟨w.heap.size, 3, none⟩ (.string yv)).setCell ⟨w.heap.size, 4, none⟩ (.string yn)).setCell ⟨w.heap.size, 5, none⟩ (.string yd)) (w.heap.size + 1) [.int .i64 0, .int .i64 0, .string ⟨#[]⟩, .slice none 0 0] 29) := ((((((HQ4d.out.other 0 (.int .i64 yh) n3).other 1 (.int .i64 yt) n3).other 2 (.string ya) n3).other 3 (.string yv) n3).other 4 (.string yn) n3).other 5 (.string yd) n3)
  have p0 := HQ6d.out.cell 0 rfl
  have p1 := HQ6d.out.cell 1 rfl
  have p2 := HQ6d.out.cell 2 rfl
  have p3 := HQ6d.out.cell 3 rfl
  have p4 := HQ6d.out.cell 4 rfl
  have p5 := HQ6d.out.cell 5 rfl
  have pf := fun j => HQ6d.out.frozen j
  go_simp
  refine hK.out _ _ (⟨⟨(HF6.out).cell 0 rfl, (HF6.out).cell 1 rfl, (HF6.out).cell 2 rfl, (HF6.out).cell 3 rfl, (HF6.out).cell 4 rfl, (HF6.out).cell 5 rfl⟩, (HF9.out).cell 0 rfl, (HF9.out).cell 1 rfl, (HF9.out).cell 2 rfl, (HF9.out).cell 3 rfl⟩) (fun hHeld => ?_)
  clear hK K
  try simp only [Act.put, List.setIfInBounds_toArray, List.set_cons_zero, List.set_cons_succ]
  refine wpAnyH_ready (rs := [5]) (by kernel_rfl) (by decide) ?_
  refine AllReadyH.cons (o := { dst := Option.none, op := Go.Op.store 29 (Go.Operand.tmp 4) (Go.Operand.tmp 19), type := 0, pos := "l09_commit.go:126", after := #[{ on := 2, ground := Go.Ground.data }, { on := 4, ground := Go.Ground.chain }, { on := 0, ground := Go.Ground.phase }, { on := 1, ground := Go.Ground.phase }, { on := 2, ground := Go.Ground.phase }, { on := 3, ground := Go.Ground.phase }, { on := 4, ground := Go.Ground.phase }], guard := Option.none }) rfl (fun K hK => ?_) AllReadyH.nil
  clear p0 p1 p2 p3 p4 p5 pf
  have m1 : w2.heap.size ≠ w.heap.size + 1 := by omega
  have m2 : w2.heap.size + 1 ≠ w.heap.size + 1 := by omega
  have m3 : w.heap.size ≠ w.heap.size + 1 := by omega
  have HG6 : Hid (Blk ((((((((((wd.setCell ⟨w.heap.size, 0, none⟩ (.int .i64 yh)).setCell ⟨w.heap.size, 1, none⟩ (.int .i64 yt)).setCell ⟨w.heap.size, 2, none⟩ (.string ya)).setCell ⟨w.heap.size, 3, none⟩ (.string yv)).setCell ⟨w.heap.size, 4, none⟩ (.string yn)).setCell ⟨w.heap.size, 5, none⟩ (.string yd)).setCell ⟨w.heap.size + 1, 0, none⟩ (.int .i64 xh)).setCell ⟨w.heap.size + 1, 1, none⟩ (.int .i64 xr)).setCell ⟨w.heap.size + 1, 2, none⟩ (.string xi)).setCell ⟨w.heap.size + 1, 3, none⟩ (.slice xa xl.length xc)) w2.heap.size [.int .i64 yh, .int .i64 yt, .string ya, .string yv, .string yn, .string yd] 26) := ((((HF6.out.other 0 (.int .i64 xh) m1).other 1 (.int .i64 xr) m1).other 2 (.string xi) m1).other 3 (.slice xa xl.length xc) m1)
  have HG9 : Hid (Blk ((((((((((wd.setCell ⟨w.heap.size, 0, none⟩ (.int .i64 yh)).setCell ⟨w.heap.size, 1, none⟩ (.int .i64 yt)).setCell ⟨w.heap.size, 2, none⟩ (.string ya)).setCell ⟨w.heap.size, 3, none⟩ (.string yv)).setCell ⟨w.heap.size, 4, none⟩ (.string yn)).setCell ⟨w.heap.size, 5, none⟩ (.string yd)).setCell ⟨w.heap.size + 1, 0, none⟩ (.int .i64 xh)).setCell ⟨w.heap.size + 1, 1, none⟩ (.int .i64 xr)).setCell ⟨w.heap.size + 1, 2, none⟩ (.string xi)).setCell ⟨w.heap.size + 1, 3, none⟩ (.slice xa xl.length xc)) (w2.heap.size + 1) [.int .i64 xh, .int .i64 xr, .string xi, .slice xa xl.length xc] 29) := ((((HF9.out.other 0 (.int .i64 xh) m2).other 1 (.int .i64 xr) m2).other 2 (.string xi) m2).other 3 (.slice xa xl.length xc) m2)
  have HT6 : Hid (Blk ((((((((((wd.setCell ⟨w.heap.size, 0, none⟩ (.int .i64 yh)).setCell ⟨w.heap.size, 1, none⟩ (.int .i64 yt)).setCell ⟨w.heap.size, 2, none⟩ (.string ya)).setCell ⟨w.heap.size, 3, none⟩ (.string yv)).setCell ⟨w.heap.size, 4, none⟩ (.string yn)).setCell ⟨w.heap.size, 5, none⟩ (.string yd)).setCell ⟨w.heap.size + 1, 0, none⟩ (.int .i64 xh)).setCell ⟨w.heap.size + 1, 1, none⟩ (.int .i64 xr)).setCell ⟨w.heap.size + 1, 2, none⟩ (.string xi)).setCell ⟨w.heap.size + 1, 3, none⟩ (.slice xa xl.length xc)) w.heap.size [.int .i64 yh, .int .i64 yt, .string ya, .string yv, .string yn, .string yd] 26) := ((((HR6.out.other 0 (.int .i64 xh) m3).other 1 (.int .i64 xr) m3).other 2 (.string xi) m3).other 3 (.slice xa xl.length xc) m3)
  have HT4 : Hid (Blk ((((((((((wd.setCell ⟨w.heap.size, 0, none⟩ (.int .i64 yh)).setCell ⟨w.heap.size, 1, none⟩ (.int .i64 yt)).setCell ⟨w.heap.size, 2, none⟩ (.string ya)).setCell ⟨w.heap.size, 3, none⟩ (.string yv)).setCell ⟨w.heap.size, 4, none⟩ (.string yn)).setCell ⟨w.heap.size, 5, none⟩ (.string yd)).setCell ⟨w.heap.size + 1, 0, none⟩ (.int .i64 xh)).setCell ⟨w.heap.size + 1, 1, none⟩ (.int .i64 xr)).setCell ⟨w.heap.size + 1, 2, none⟩ (.string xi)).setCell ⟨w.heap.size + 1, 3, none⟩ (.slice xa xl.length xc)) (w.heap.size + 1) [.int .i64 xh, .int .i64 xr, .string xi, .slice xa xl.length xc] 29) := ((((HQ4a.out.set 0 (.int .i64 xh)).set 1 (.int .i64 xr)).set 2 (.string xi)).set 3 (.slice xa xl.length xc))
  have p0 := HQ4a.out.cell 0 rfl
  have p1 := HQ4a.out.cell 1 rfl
  have p2 := HQ4a.out.cell 2 rfl
  have p3 := HQ4a.out.cell 3 rfl
  have pf := fun j => HQ4a.out.frozen j
  go_simp
  refine hK.out _ _ (⟨⟨(HG6.out).cell 0 rfl, (HG6.out).cell 1 rfl, (HG6.out).cell 2 rfl, (HG6.out).cell 3 rfl, (HG6.out).cell 4 rfl, (HG6.out).cell 5 rfl⟩, (HG9.out).cell 0 rfl, (HG9.out).cell 1 rfl, (HG9.out).cell 2 rfl, (HG9.out).cell 3 rfl⟩) (fun hHeld => ?_)
  clear hK K
  try simp only [Act.put, List.setIfInBounds_toArray, List.set_cons_zero, List.set_cons_succ]
  refine wpAnyH_done (by kernel_rfl) ?_ _
  clear p0 p1 p2 p3 pf
  have l1 : w.heap.size < w0.heap.size := by omega
  have l2 : w.heap.size + 1 < w0.heap.size := by omega
  have HBf : Hid (Below w.heap.size w ((((((((((wd.setCell ⟨w.heap.size, 0, none⟩ (.int .i64 yh)).setCell ⟨w.heap.size, 1, none⟩ (.int .i64 yt)).setCell ⟨w.heap.size, 2, none⟩ (.string ya)).setCell ⟨w.heap.size, 3, none⟩ (.string yv)).setCell ⟨w.heap.size, 4, none⟩ (.string yn)).setCell ⟨w.heap.size, 5, none⟩ (.string yd)).setCell ⟨w.heap.size + 1, 0, none⟩ (.int .i64 xh)).setCell ⟨w.heap.size + 1, 1, none⟩ (.int .i64 xr)).setCell ⟨w.heap.size + 1, 2, none⟩ (.string xi)).setCell ⟨w.heap.size + 1, 3, none⟩ (.slice xa xl.length xc))) := ((((((((((HBd.out.setCell (p := ⟨w.heap.size, 0, none⟩) (Nat.le_refl _) (.int .i64 yh)).setCell (p := ⟨w.heap.size, 1, none⟩) (Nat.le_refl _) (.int .i64 yt)).setCell (p := ⟨w.heap.size, 2, none⟩) (Nat.le_refl _) (.string ya)).setCell (p := ⟨w.heap.size, 3, none⟩) (Nat.le_refl _) (.string yv)).setCell (p := ⟨w.heap.size, 4, none⟩) (Nat.le_refl _) (.string yn)).setCell (p := ⟨w.heap.size, 5, none⟩) (Nat.le_refl _) (.string yd)).setCell (p := ⟨w.heap.size + 1, 0, none⟩) (Nat.le_succ _) (.int .i64 xh)).setCell (p := ⟨w.heap.size + 1, 1, none⟩) (Nat.le_succ _) (.int .i64 xr)).setCell (p := ⟨w.heap.size + 1, 2, none⟩) (Nat.le_succ _) (.string xi)).setCell (p := ⟨w.heap.size + 1, 3, none⟩) (Nat.le_succ _) (.slice xa xl.length xc))
  have HAf : Hid (Abv w0.heap.size wd ((((((((((wd.setCell ⟨w.heap.size, 0, none⟩ (.int .i64 yh)).setCell ⟨w.heap.size, 1, none⟩ (.int .i64 yt)).setCell ⟨w.heap.size, 2, none⟩ (.string ya)).setCell ⟨w.heap.size, 3, none⟩ (.string yv)).setCell ⟨w.heap.size, 4, none⟩ (.string yn)).setCell ⟨w.heap.size, 5, none⟩ (.string yd)).setCell ⟨w.heap.size + 1, 0, none⟩ (.int .i64 xh)).setCell ⟨w.heap.size + 1, 1, none⟩ (.int .i64 xr)).setCell ⟨w.heap.size + 1, 2, none⟩ (.string xi)).setCell ⟨w.heap.size + 1, 3, none⟩ (.slice xa xl.length xc))) := (((((((((((Abv.refl _ wd).set l1 0 (.int .i64 yh)).set l1 1 (.int .i64 yt)).set l1 2 (.string ya)).set l1 3 (.string yv)).set l1 4 (.string yn)).set l1 5 (.string yd)).set l2 0 (.int .i64 xh)).set l2 1 (.int .i64 xr)).set l2 2 (.string xi)).set l2 3 (.slice xa xl.length xc))
  have HVf : Hid (VO ((((((((((wd.setCell ⟨w.heap.size, 0, none⟩ (.int .i64 yh)).setCell ⟨w.heap.size, 1, none⟩ (.int .i64 yt)).setCell ⟨w.heap.size, 2, none⟩ (.string ya)).setCell ⟨w.heap.size, 3, none⟩ (.string yv)).setCell ⟨w.heap.size, 4, none⟩ (.string yn)).setCell ⟨w.heap.size, 5, none⟩ (.string yd)).setCell ⟨w.heap.size + 1, 0, none⟩ (.int .i64 xh)).setCell ⟨w.heap.size + 1, 1, none⟩ (.int .i64 xr)).setCell ⟨w.heap.size + 1, 2, none⟩ (.string xi)).setCell ⟨w.heap.size + 1, 3, none⟩ (.slice xa xl.length xc)) va l ∧ l.length ≤ 8) := ⟨HVd.out.1.abv HAf.out HVd.out.2.2, HVd.out.2.1⟩
  have HSf : Hid (SO ((((((((((wd.setCell ⟨w.heap.size, 0, none⟩ (.int .i64 yh)).setCell ⟨w.heap.size, 1, none⟩ (.int .i64 yt)).setCell ⟨w.heap.size, 2, none⟩ (.string ya)).setCell ⟨w.heap.size, 3, none⟩ (.string yv)).setCell ⟨w.heap.size, 4, none⟩ (.string yn)).setCell ⟨w.heap.size, 5, none⟩ (.string yd)).setCell ⟨w.heap.size + 1, 0, none⟩ (.int .i64 xh)).setCell ⟨w.heap.size + 1, 1, none⟩ (.int .i64 xr)).setCell ⟨w.heap.size + 1, 2, none⟩ (.string xi)).setCell ⟨w.heap.size + 1, 3, none⟩ (.slice xa xl.length xc)) xa xl) := HSd.out.1.abv HAf.out HSd.out.2
  go_wp2
  have y0 := HT6.out.cell 0 rfl
  have y1 := HT6.out.cell 1 rfl
  have y2 := HT6.out.cell 2 rfl
  have y3 := HT6.out.cell 3 rfl
  have y4 := HT6.out.cell 4 rfl
  have y5 := HT6.out.cell 5 rfl
  have z0 := HT4.out.cell 0 rfl
  have z1 := HT4.out.cell 1 rfl
  have z2 := HT4.out.cell 2 rfl
  have z3 := HT4.out.cell 3 rfl
  refine bodyPost_ret (v := .tuple #[.slice va l.length vc, .agg #[.int .i64 yh, .int .i64 yt, .string ya, .string yv, .string yn, .string yd], .agg #[.int .i64 xh, .int .i64 xr, .string xi, .slice xa xl.length xc]]) ?_ rfl ⟨va, vc, l, ⟨yh, yt, ya, yv, yn, yd⟩, ⟨xh, xr, xi, xl⟩, xa, xc, rfl, HVf, HY, HX, HSf, HBf⟩
  clear HVf HSf HBf HAf HT6 HT4 HG6 HG9 HR6 HQ4a HF6 HF9
  generalize ((((((((((wd.setCell ⟨w.heap.size, 0, none⟩ (.int .i64 yh)).setCell ⟨w.heap.size, 1, none⟩ (.int .i64 yt)).setCell ⟨w.heap.size, 2, none⟩ (.string ya)).setCell ⟨w.heap.size, 3, none⟩ (.string yv)).setCell ⟨w.heap.size, 4, none⟩ (.string yn)).setCell ⟨w.heap.size, 5, none⟩ (.string yd)).setCell ⟨w.heap.size + 1, 0, none⟩ (.int .i64 xh)).setCell ⟨w.heap.size + 1, 1, none⟩ (.int .i64 xr)).setCell ⟨w.heap.size + 1, 2, none⟩ (.string xi)).setCell ⟨w.heap.size + 1, 3, none⟩ (.slice xa xl.length xc)) = W at *
  simp [results, Tryz.results6, go_sem, y0, y1, y2, y3, y4, y5, z0, z1, z2, z3]
end Go.Proofs.YtbpmjejmeaifbaaGreatDoor
