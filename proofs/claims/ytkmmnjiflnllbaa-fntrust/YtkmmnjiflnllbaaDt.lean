/- What DrawTimeLeft gives, at a code of at most 2 to the 20 bytes; old memory stays. Conditions: none of ours. -/
import Derived.Test.YtkmmnjiflnllbaaDr
namespace Go.Proofs.Ytkmmnjiflnllbaa
open Go.RowKit
open Num
set_option linter.unusedVariables false
/-- The result's block is c, the cursor lies at g, the trust in block b. -/
def DX (w wx : World) (c g b : Nat) (p s : Int) : Prop :=
  Blk wx b [.int .i64 p, .int .i64 s] 25 ∧ DS wx g (g + 1) ∧ Blk wx c [.int .i64 0, .int .i64 0] 25 ∧ Below w.heap.size w wx ∧ (w.heap.size ≤ c ∧ c < g ∧ g < b) ∧ g + 1 ≤ wx.heap.size
theorem DX.call {w wx wy : World} {c g b : Nat} {p s : Int} (h : DX w wx c g b p s) (hd : DS wy g (g + 1)) (hg : wx.grownBy wy (some g)) : DX w wy c g b p s := by
  obtain ⟨h1, h2, h3, h4, h5, h6⟩ := h
  exact ⟨h1.grown hg (by simp; omega), hd, h3.grown hg (by simp; omega), h4.grown hg h4.size (fun k e => by injection e; omega), h5, Nat.le_trans h6 hg.size⟩
theorem DX.put {w wx : World} {c g b : Nat} {p s : Int} (h : DX w wx c g b p s) :
    Blk ((wx.setCell ⟨c, 0, none⟩ (.int .i64 p)).setCell ⟨c, 1, none⟩ (.int .i64 s)) b [.int .i64 p, .int .i64 s] 25 ∧ Blk ((wx.setCell ⟨c, 0, none⟩ (.int .i64 p)).setCell ⟨c, 1, none⟩ (.int .i64 s)) c [.int .i64 p, .int .i64 s] 25 ∧ Hid (Below w.heap.size w ((wx.setCell ⟨c, 0, none⟩ (.int .i64 p)).setCell ⟨c, 1, none⟩ (.int .i64 s))) := by
  obtain ⟨h1, h2, h3, h4, h5, h6⟩ := h
  refine ⟨(h1.other 0 _ (by omega)).other 1 _ (by omega), (h3.set 0 _).set 1 _, ?_⟩
  exact (h4.setCell (p := ⟨c, 0, none⟩) h5.1 _).setCell (p := ⟨c, 1, none⟩) h5.1 _
theorem DX.drew {w wx : World} {c g b : Nat} {p s : Int} (h : DX w wx c g b p s) : DX w wx.drew c g b p s := by
  obtain ⟨h1, h2, h3, h4, h5, h6⟩ := h
  exact ⟨h1, h2, h3, h4.drew, h5, h6⟩
theorem code_next {w : World} {a : Option Addr} {L : List UInt8} (hl : CodeAt w w.heap.size a L) (o : Obj) : CodeAt (w.alloc o) (w.alloc o).heap.size a L := by
  intro j hj
  obtain ⟨b, off, e, hne, hc⟩ := hl j hj
  have h1 : b < w.heap.size := World.block_lt_of_cell? w _ hc
  refine ⟨b, off, e, by simp; omega, ?_⟩
  rw [((Below.refl _ _).alloc (Nat.le_refl _) o : Below w.heap.size w (w.alloc o)).cell (p := ⟨b, off + j, none⟩) h1]; exact hc
set_option maxHeartbeats 3200000 in
set_option maxRecDepth 100000 in
theorem draw_left (a : Option Addr) (L : List UInt8) (cap : Nat) (w : World) (hl : CodeAt w w.heap.size a L) (hlen : L.length ≤ 1048576) :
    Calls Try.prog 9 #[.slice a L.length cap] w fun e w' => ∃ (t : T) (x n : Int), e = .returned (.tuple #[tV t, .int .i64 x, .int .i64 n]) ∧ (-1 ≤ x ∧ x ≤ 1000001 ∧ -1 ≤ n ∧ n ≤ 1000001) ∧ Hid (Below w.heap.size w w') := by
  unfold tV
  have kN := cur_d a L cap (w.alloc (.cells [.int .i64 0, .int .i64 0].toArray 25)) (code_next hl _) hlen
  have HC0 : Hid (Blk (w.alloc (.cells [.int .i64 0, .int .i64 0].toArray 25)) w.heap.size [.int .i64 0, .int .i64 0] 25) := blk_new w _ _
  have HB0 : Hid (Below w.heap.size w (w.alloc (.cells [.int .i64 0, .int .i64 0].toArray 25))) := (Below.refl _ _).alloc (Nat.le_refl _) _
  have hs0 : (w.alloc (.cells [.int .i64 0, .int .i64 0].toArray 25)).heap.size = w.heap.size + 1 := by simp
  clear hl
  obtain ⟨c, hc⟩ : ∃ z, w.heap.size = z := ⟨_, rfl⟩
  go_enter Try.func9, Try.ntmps9
  go_wp2_with fail
  generalize w.alloc (Obj.cells #[.int .i64 0, .int .i64 0] 25) = w0 at *
  have hg : w0.heap.size = c + 1 := by omega
  rw [hg] at kN
  refine kN.mono ?_
  rintro e w1 ⟨rfl, HD1, HB1, hs1⟩
  clear kN
  go_wp2_with fail
  refine (trust_d (c + 1) (c + 1 + 1) w1 HD1.out hs1).mono ?_
  rintro e w2 ⟨t, rfl, HD2, HG2⟩
  obtain ⟨p, s⟩ := t
  unfold tV
  have HC2 : Hid (Blk w2 w.heap.size [.int .i64 0, .int .i64 0] 25) := (HC0.out.below HB1.out (by have := HC0.out.lt; omega)).grown HG2.out (by simp; omega)
  have HB2 : Hid (Below w.heap.size w w2) := (HB0.out.trans (HB1.out.mono (by omega))).grown HG2.out (by have := HB1.out.size; omega) (fun k e => by injection e; omega)
  have hs2 : c + 1 + 1 ≤ w2.heap.size := Nat.le_trans hs1 HG2.out.size
  clear HC0 HB0 HD1 HB1 HG2
  obtain ⟨b, hb⟩ : ∃ z, w2.heap.size = z := ⟨_, rfl⟩
  have HX3 : Hid (DX w (w2.alloc (.cells [.int .i64 p, .int .i64 s].toArray 25)) w.heap.size (c + 1) w2.heap.size p s) :=
    ⟨blk_new w2 _ _, HD2.out.below ((Below.refl _ _).alloc hs2 _), HC2.out.alloc _, HB2.out.alloc HB2.out.size _, ⟨Nat.le_refl _, by omega, by omega⟩, by simp; omega⟩
  rw [hb] at HX3
  clear HC2 HB2 HD2
  go_wp2_with fail
  generalize w2.alloc (Obj.cells #[Value.int .i64 p, Value.int .i64 s] 25) = w3 at *
  try rw [hb]
  rw [hc] at HX3
  try rw [hc]
  refine (at_d (c + 1) (c + 1 + 1) w3 HX3.out.2.1 HX3.out.2.2.2.2.2).mono ?_
  rintro e wr ⟨x, rfl, x0, x1, HD4, HG4⟩
  have HXr : Hid (DX w wr c (c + 1) b p s) := HX3.out.call HD4.out HG4.out
  clear HX3 HD4 HG4
  go_wp2_with fail
  have HXd : Hid (DX w wr.drew c (c + 1) b p s) := HXr.out.drew
  refine wp_region_held_drew (S := (fun W : World => W.cell? ⟨b, 0, none⟩ = some (.int .i64 p) ∧ W.cell? ⟨b, 1, none⟩ = some (.int .i64 s))) (by kernel_rfl) ?_ (fun hHeld => ?_)
  · exact ⟨HXd.out.1.cell 0 rfl, HXd.out.1.cell 1 rfl⟩
  refine wpAnyH_take (i := 0) (oi := { dst := Option.some 14, op := Go.Op.load 25 (Go.Operand.tmp 6), type := 25, pos := "l10_trust.go:67", after := #[], guard := Option.none }) (v := ?_) rfl (by kernel_rfl) (by kernel_rfl) (by kernel_rfl) (fun _ _ _ h => h) (Or.inl ⟨by rfl, ?_⟩) hHeld ?_
  rotate_left
  · intro w hSw
    try dsimp only at hSw
    go_simp
    try (with_reducible rfl)
  simp only [Act.put, List.setIfInBounds_toArray, List.set_cons_zero, List.set_cons_succ]
  refine wpAnyH_take (i := 1) (oi := { dst := Option.some 15, op := Go.Op.move (Go.Operand.tmp 7), type := 3, pos := "l10_trust.go:67", after := #[{ on := 4, ground := Go.Ground.gcOnly Go.Departure.lateStores }], guard := Option.none }) (v := ?_) rfl (by kernel_rfl) (by kernel_rfl) (by kernel_rfl) (fun _ _ _ h => h) (Or.inl ⟨by rfl, ?_⟩) hHeld ?_
  rotate_left
  · intro w hSw
    try dsimp only at hSw
    go_simp
    try (with_reducible rfl)
  simp only [Act.put, List.setIfInBounds_toArray, List.set_cons_zero, List.set_cons_succ]
  refine wpAnyH_take (i := 2) (oi := { dst := Option.some 16, op := Go.Op.move (Go.Operand.tmp 5), type := 37, pos := "l10_trust.go:67", after := #[], guard := Option.none }) (v := ?_) rfl (by kernel_rfl) (by kernel_rfl) (by kernel_rfl) (fun _ _ _ h => h) (Or.inl ⟨by rfl, ?_⟩) hHeld ?_
  rotate_left
  · intro w hSw
    try dsimp only at hSw
    go_simp
    try (with_reducible rfl)
  simp only [Act.put, List.setIfInBounds_toArray, List.set_cons_zero, List.set_cons_succ]
  refine wpAnyH_ready (rs := [3]) (by kernel_rfl) (by decide) ?_
  refine AllReadyH.cons (o := { dst := Option.some 17, op := Go.Op.call { callee := Go.Callee.value (Go.Operand.func 21), args := #[Go.Operand.tmp 16], argTypes := #[37] }, type := 3, pos := "l10_trust.go:67", after := #[{ on := 2, ground := Go.Ground.data }], guard := Option.none }) rfl (fun K hK => ?_) AllReadyH.nil
  go_simp
  go_at_call 21
  refine (at_d (c + 1) (c + 1 + 1) _ HXd.out.2.1 HXd.out.2.2.2.2.2).mono ?_
  rintro e w6 ⟨n, rfl, n0, n1, HD6, HG6⟩
  have HX6 : Hid (DX w w6 c (c + 1) b p s) := HXd.out.call HD6.out HG6.out
  refine hK.out _ _ (⟨HX6.out.1.cell 0 rfl, HX6.out.1.cell 1 rfl⟩) (fun hHeld => ?_)
  clear hK K
  try simp only [Act.put, List.setIfInBounds_toArray, List.set_cons_zero, List.set_cons_succ]
  refine wpAnyH_ready (rs := [4]) (by kernel_rfl) (by decide) ?_
  refine AllReadyH.cons (o := { dst := Option.none, op := Go.Op.store 25 (Go.Operand.tmp 2) (Go.Operand.tmp 14), type := 0, pos := "l10_trust.go:67", after := #[{ on := 0, ground := Go.Ground.data }, { on := 3, ground := Go.Ground.chain }, { on := 0, ground := Go.Ground.phase }, { on := 1, ground := Go.Ground.textOnly Go.Departure.lateStores }, { on := 2, ground := Go.Ground.textOnly Go.Departure.lateStores }, { on := 3, ground := Go.Ground.textOnly Go.Departure.lateStoresUnsure }], guard := Option.none }) rfl (fun K hK => ?_) AllReadyH.nil
  have p0 := HX6.out.2.2.1.cell 0 rfl
  have p1 := HX6.out.2.2.1.cell 1 rfl
  have f0 := HX6.out.2.2.1.frozen 0
  have f1 := HX6.out.2.2.1.frozen 1
  have HY := HX6.out.put
  go_simp
  refine hK.out _ _ (⟨HY.1.cell 0 rfl, HY.1.cell 1 rfl⟩) (fun hHeld => ?_)
  clear hK K
  try simp only [Act.put, List.setIfInBounds_toArray, List.set_cons_zero, List.set_cons_succ]
  refine wpAnyH_take (i := 5) (oi := { dst := Option.some 3, op := Go.Op.assign (Go.Operand.tmp 15), type := 3, pos := "l10_trust.go:67", after := #[{ on := 1, ground := Go.Ground.data }, { on := 4, ground := Go.Ground.chain }, { on := 0, ground := Go.Ground.phase }, { on := 1, ground := Go.Ground.phase }, { on := 2, ground := Go.Ground.textOnly Go.Departure.lateStores }, { on := 3, ground := Go.Ground.textOnly Go.Departure.lateStoresUnsure }, { on := 4, ground := Go.Ground.phase }], guard := Option.none }) (v := ?_) rfl (by kernel_rfl) (by kernel_rfl) (by kernel_rfl) (fun _ _ _ h => h) (Or.inl ⟨by rfl, ?_⟩) hHeld ?_
  rotate_left
  · intro w hSw
    try dsimp only at hSw
    go_simp
    try (with_reducible rfl)
  simp only [Act.put, List.setIfInBounds_toArray, List.set_cons_zero, List.set_cons_succ]
  refine wpAnyH_take (i := 6) (oi := { dst := Option.some 4, op := Go.Op.assign (Go.Operand.tmp 17), type := 3, pos := "l10_trust.go:67", after := #[{ on := 3, ground := Go.Ground.data }, { on := 5, ground := Go.Ground.chain }, { on := 0, ground := Go.Ground.phase }, { on := 1, ground := Go.Ground.phase }, { on := 2, ground := Go.Ground.phase }, { on := 3, ground := Go.Ground.phase }, { on := 4, ground := Go.Ground.phase }, { on := 5, ground := Go.Ground.phase }], guard := Option.none }) (v := ?_) rfl (by kernel_rfl) (by kernel_rfl) (by kernel_rfl) (fun _ _ _ h => h) (Or.inl ⟨by rfl, ?_⟩) hHeld ?_
  rotate_left
  · intro w hSw
    try dsimp only at hSw
    go_simp
    try (with_reducible rfl)
  simp only [Act.put, List.setIfInBounds_toArray, List.set_cons_zero, List.set_cons_succ]
  refine wpAnyH_done (by kernel_rfl) ?_ _
  have c0 := HY.2.1.cell 0 rfl
  have c1 := HY.2.1.cell 1 rfl
  have HB := HY.2.2
  go_wp2
  refine bodyPost_ret (v := .tuple #[.agg #[.int .i64 p, .int .i64 s], .int .i64 x, .int .i64 n]) ?_ rfl ⟨⟨p, s⟩, x, n, rfl, ⟨x0, x1, n0, n1⟩, HB⟩
  clear HB HY
  generalize ((w6.setCell _ _).setCell _ _ : World) = W at *
  simp [results, Try.results9, go_sem, c0, c1]
end Go.Proofs.Ytkmmnjiflnllbaa
