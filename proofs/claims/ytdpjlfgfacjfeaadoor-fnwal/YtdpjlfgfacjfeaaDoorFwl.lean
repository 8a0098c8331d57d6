/- FnWal at every code of at most 2 to the 20 bytes: true. Conditions: the table of sums lies as the program lays it. -/
import Derived.Test.YtdpjlfgfacjfeaaDoorFr
import Derived.Test.YtdpjlfgfacjfeaaDoorFw
import Derived.Test.YtdpjlfgfacjfeaaDoorDl
import Derived.Test.YtdpjlfgfacjfeaaDoorIs
import Derived.Test.YtdpjlfgfacjfeaaDoorSs
import Derived.Outline
import Derived.Deep.CutRange
namespace Go.Proofs.YtdpjlfgfacjfeaaDoor
open Go.RowKit
open Num
set_option linter.unusedVariables false
theorem take_any (a : Option Addr) (ss : List ByteArray) (w : World) (n : Nat) (h : StrO w a ss) : StrO w a (ss.take n) := by
  rcases h with h | ⟨b, o, h1, h2⟩
  · left; rw [List.length_take]; omega
  · exact .inr ⟨b, o, h1, h2.take n⟩
def Two (ss : List ByteArray) : Prop := ∀ t ∈ ss, t.size ≤ 2
theorem Two.fits {ss : List ByteArray} (h : Two ss) : Fits ss := fun t ht => Nat.le_trans (h t ht) (by decide)
theorem Two.snoc {ss : List ByteArray} {t : ByteArray} (h : Two ss) (ht : t.size ≤ 2) : Two (ss ++ [t]) := fun x hx => by
  rcases List.mem_append.1 hx with hx | hx
  · exact h x hx
  · rw [List.mem_singleton.1 hx]; exact ht
set_option maxHeartbeats 12800000 in
set_option maxRecDepth 100000 in
theorem fn_wal (a : Option Addr) (L : List UInt8) (cap : Nat) (w : World) (hl : CodeAt w w.heap.size a L) (hlen : L.length ≤ 1048576) (hT : Tab w) :
    Calls Tryd.prog 3 #[.slice a L.length cap] w fun e w' => e = .returned (.bool true) ∧ Below w.heap.size w w' := by
  obtain ⟨i0, hi, hz0, hz1, hz2⟩ := info9f
  have hlb : L.length ≤ 9223372036854775807 := by omega
  have hbig : decide ((1048576 : Int) < (L.length : Int)) = false := decide_eq_false (by omega)
  have HC : Hid (CodeAt w w.heap.size a L) := hl
  have HT : Hid (Tab w) := hT
  clear hl hT
  go_enter Tryd.func3, Tryd.ntmps3
  go_wp2_with fail
  refine (big_any a L.length cap _ hlb).mono ?_
  rintro e w0 ⟨rfl, rfl⟩
  rw [hbig]
  go_wp2
  go_loopw [3, 4, 5] (fun lv ov iv wr => ∃ (j : Nat) (l : ByteArray) (q : Value) (ss : List ByteArray), j ≤ 6 ∧ iv = .int .i64 j ∧ lv = .string l ∧ q = ov ∧ ss.length = j ∧ Hid (Two ss) ∧ Hid (l.data.toList = cat ss) ∧ l.size ≤ 7 * j ∧ Hid (OwnT wr w0.heap.size q ss) ∧ Hid (Below w0.heap.size w0 wr)) (fun _ _ iv _ => 6 - (intOf iv).toNat)
  case atStart => exact ⟨0, ⟨#[]⟩, _, [], by omega, rfl, rfl, rfl, rfl, (fun t ht => by cases ht), rfl, Nat.le_refl _, World.ownsRow_made w0 #[] 0 (Nat.le_refl _) (by decide) rfl, (Below.refl _ _).alloc (Nat.le_refl _) _⟩
  case round =>
    obtain ⟨j, l, q, ss, hj, rfl, rfl, rfl, hsj, H2, HLC, hls, HO, HB⟩ := hrel
    by_cases hlt : j < 6
    · have hltz : (j : Int) < 6 := by omega
      have HCr : Hid (CodeAt wr wr.heap.size a L) := code_below HC.out HB.out
      go_upto_region 8 with fail
      go_cut [6] from 27 to 61 (fun s wx => ∃ t : ByteArray, s = .string t ∧ Hid (t.size ≤ 2) ∧ Hid (OwnT wx w0.heap.size q ss) ∧ Hid (Below w0.heap.size w0 wx))
      case first =>
        have HCd : Hid (CodeAt wr.drew wr.drew.heap.size a L) := HCr.out
        have HBd : Hid (Below w0.heap.size w0 wr.drew) := HB.out.drew
        have HOd : Hid (OwnT wr.drew w0.heap.size q ss) := own_keep HO.out (Below.refl _ _).drew
        have kF := fun W hC => fresh_any a L cap j W (by omega) hC hlen
        have kA1 := fun W hC => at_any a L cap j W hC hlen (by omega)
        have kA2 := fun W hC => at_any a L cap (j + 1) W hC hlen (by omega)
        rw [show ((j + 1 : Nat) : Int) = (j : Int) + 1 from by omega] at kA2
        have ha1 := atV_bound L j
        have ha2 := atV_bound L (j + 1)
        generalize atV L j = a1 at *
        generalize atV L (j + 1) = a2 at *
        obtain ⟨a10, a11⟩ := ha1
        obtain ⟨m, hm⟩ : ∃ m, a2.tmod 2 = m := ⟨_, rfl⟩
        have hm' : m = a2 % 2 := by rw [← hm]; exact Int.tmod_eq_emod_of_nonneg ha2.1
        have hm0 : 0 ≤ m := by omega
        have hm1 : m ≤ 1 := by omega
        clear hm' ha2
        have hwm : IntKind.i64.wrap m = m := by rw [IntKind.wrap_i64]; omega
        have hw1 : IntKind.u8.wrap a1 = a1 := by rw [u8_mod]; omega
        have hwr : IntKind.i64.wrap ((j : Int) + 1) = (j : Int) + 1 := by rw [IntKind.wrap_i64]; omega
        have HZ1 : Hid (∀ (W : World) (g cq : Nat), W.cell? ⟨g, 0, none⟩ = some (.int .u8 (j : Int)) → (convert 22 9 (.slice (some ⟨g, 0, none⟩) 1 cq)).run Tryd.prog W = .ok (.string ⟨#[UInt8.ofNat j]⟩) W) := fun W g cq hc =>
          run_convert_bytes_back W 22 9 5 _ cq [UInt8.ofNat j] Tryd.underlying22 Tryd.underlying5 Tryd.underlying9 fun k hk => by
            have hk0 : k = 0 := by simp at hk; omega
            subst hk0
            rw [add_at, hc]
            have hjm : (j : Int) = (j : Int) % 256 := by omega
            simp
            exact hjm
        have HX1 : Hid (∀ W : World, (convert 22 9 (.slice (some ⟨W.heap.size, 0, none⟩) 1 1)).run Tryd.prog (W.alloc (.cells #[.int .u8 a1] 5)) = .ok (.string ⟨#[UInt8.ofNat a1.toNat]⟩) (W.alloc (.cells #[.int .u8 a1] 5))) := fun W => run_str_one W 22 9 5 Tryd.underlying22 Tryd.underlying5 Tryd.underlying9 a1 a10 a11
        obtain ⟨Z, hZ⟩ : ∃ Z : ByteArray, (⟨#[UInt8.ofNat j]⟩ : ByteArray) = Z := ⟨_, rfl⟩
        obtain ⟨X, hX⟩ : ∃ X : ByteArray, (⟨#[UInt8.ofNat a1.toNat]⟩ : ByteArray) = X := ⟨_, rfl⟩
        have hZs : Z.size = 1 := by rw [← hZ]; rfl
        have hXs : X.size = 1 := by rw [← hX]; rfl
        rw [hZ] at HZ1
        rw [hX] at HX1
        clear hZ hX
        obtain ⟨m', rfl⟩ : ∃ m' : Nat, m = (m' : Int) := ⟨m.toNat, by omega⟩
        have hsl : ∀ W, (Instr.slice 9 (.string X) none (some (.int .i64 (m' : Int))) none).run Tryd.prog W = .ok (.string (X.extract 0 m')) W := fun W => by
          rw [run_slice_string_h W 9 X Tryd.underlying9 .i64 (m' : Int) (by omega) (by omega), Int.toNat_natCast]
        have hYs : (X.extract 0 m').size ≤ 1 := by rw [ByteArray.size_extract]; omega
        generalize X.extract 0 m' = Y at *
        have hno : ¬ 9223372036854775807 < Z.size + Y.size := by omega
        have HTS : Hid ((Z ++ Y).size ≤ 2) := by show _ ≤ _; rw [ByteArray.size_append]; omega
        clear hZs hXs hYs
        refine wp_region_held_drew (S := (fun _ : World => True)) (by kernel_rfl) ?_ (fun hHeld => ?_)
        · exact trivial
        generalize wr.drew = wd at *
        refine wpAnyH_take (i := 0) (oi := { dst := some 31, op := Go.Op.move (Go.Operand.tmp 0), type := 22, pos := "laws.go:551", after := #[], guard := none }) (v := ?_) rfl (by kernel_rfl) (by kernel_rfl) (by kernel_rfl) (fun _ _ _ h => h) (Or.inl ⟨by rfl, ?_⟩) hHeld ?_
        rotate_left
        · intro w hSw
          try dsimp only at hSw
          go_simp
          try (with_reducible rfl)
        simp only [Act.put, List.setIfInBounds_toArray, List.set_cons_zero, List.set_cons_succ]
        refine wpAnyH_take (i := 1) (oi := { dst := some 32, op := Go.Op.move (Go.Operand.tmp 5), type := 3, pos := "laws.go:551", after := #[], guard := none }) (v := ?_) rfl (by kernel_rfl) (by kernel_rfl) (by kernel_rfl) (fun _ _ _ h => h) (Or.inl ⟨by rfl, ?_⟩) hHeld ?_
        rotate_left
        · intro w hSw
          try dsimp only at hSw
          go_simp
          try (with_reducible rfl)
        simp only [Act.put, List.setIfInBounds_toArray, List.set_cons_zero, List.set_cons_succ]
        refine wpAnyH_take (i := 5) (oi := { dst := some 36, op := Go.Op.move (Go.Operand.tmp 0), type := 22, pos := "laws.go:551", after := #[], guard := none }) (v := ?_) rfl (by kernel_rfl) (by kernel_rfl) (by kernel_rfl) (fun _ _ _ h => h) (Or.inl ⟨by rfl, ?_⟩) hHeld ?_
        rotate_left
        · intro w hSw
          try dsimp only at hSw
          go_simp
          try (with_reducible rfl)
        simp only [Act.put, List.setIfInBounds_toArray, List.set_cons_zero, List.set_cons_succ]
        refine wpAnyH_take (i := 6) (oi := { dst := some 37, op := Go.Op.move (Go.Operand.tmp 5), type := 3, pos := "laws.go:551", after := #[], guard := none }) (v := ?_) rfl (by kernel_rfl) (by kernel_rfl) (by kernel_rfl) (fun _ _ _ h => h) (Or.inl ⟨by rfl, ?_⟩) hHeld ?_
        rotate_left
        · intro w hSw
          try dsimp only at hSw
          go_simp
          try (with_reducible rfl)
        simp only [Act.put, List.setIfInBounds_toArray, List.set_cons_zero, List.set_cons_succ]
        refine wpAnyH_take (i := 11) (oi := { dst := some 42, op := Go.Op.move (Go.Operand.tmp 0), type := 22, pos := "laws.go:551", after := #[], guard := none }) (v := ?_) rfl (by kernel_rfl) (by kernel_rfl) (by kernel_rfl) (fun _ _ _ h => h) (Or.inl ⟨by rfl, ?_⟩) hHeld ?_
        rotate_left
        · intro w hSw
          try dsimp only at hSw
          go_simp
          try (with_reducible rfl)
        simp only [Act.put, List.setIfInBounds_toArray, List.set_cons_zero, List.set_cons_succ]
        refine wpAnyH_take (i := 12) (oi := { dst := some 43, op := Go.Op.move (Go.Operand.tmp 5), type := 3, pos := "laws.go:551", after := #[], guard := none }) (v := ?_) rfl (by kernel_rfl) (by kernel_rfl) (by kernel_rfl) (fun _ _ _ h => h) (Or.inl ⟨by rfl, ?_⟩) hHeld ?_
        rotate_left
        · intro w hSw
          try dsimp only at hSw
          go_simp
          try (with_reducible rfl)
        simp only [Act.put, List.setIfInBounds_toArray, List.set_cons_zero, List.set_cons_succ]
        refine wpAnyH_take (i := 13) (oi := { dst := some 44, op := Go.Op.binOp Go.BinOp.add 3 (Go.Operand.tmp 43) (Go.Operand.const (Go.Value.int Go.IntKind.i64 1)) 3, type := 3, pos := "laws.go:551", after := #[{ on := 12, ground := Go.Ground.data }], guard := none }) (v := ?_) rfl (by kernel_rfl) (by kernel_rfl) (by kernel_rfl) (fun _ _ _ h => h) (Or.inl ⟨by rfl, ?_⟩) hHeld ?_
        rotate_left
        · intro w hSw
          try dsimp only at hSw
          go_simp
          try (with_reducible rfl)
        simp only [Act.put, List.setIfInBounds_toArray, List.set_cons_zero, List.set_cons_succ]
        refine wpAnyH_ready (rs := [2]) (by kernel_rfl) (by decide) ?_
        refine AllReadyH.cons (o := { dst := some 33, op := Go.Op.call { callee := Go.Callee.value (Go.Operand.func 7), args := #[Go.Operand.tmp 31, Go.Operand.tmp 32], argTypes := #[22, 3] }, type := 22, pos := "laws.go:551", after := #[{ on := 0, ground := Go.Ground.data }, { on := 1, ground := Go.Ground.data }], guard := none }) rfl (fun K hK => ?_) AllReadyH.nil
        go_simp
        refine (kF _ HCd.out).mono ?_
        rintro e wf ⟨g, n, cq, rfl, hcap, HZ, HBf⟩
        have hcq : (1 : Int) ≤ (cq : Int) := by omega
        have HCf : Hid (CodeAt wf wf.heap.size a L) := code_below HCd.out HBf.out
        have HCg : Hid (CodeAt (wf.alloc (.cells #[.int .u8 a1] 5)) (wf.alloc (.cells #[.int .u8 a1] 5)).heap.size a L) := code_below HCf.out ((Below.refl _ _).alloc (Nat.le_refl _) _)
        have hz1 := HZ1.out wf g cq HZ.out
        have hz2 := HZ1.out (wf.alloc (.cells #[.int .u8 a1] 5)) g cq (((((Below.refl _ wf).alloc (Nat.le_refl _) _ : Below wf.heap.size wf (wf.alloc _))).cell (World.block_lt_of_cell? wf _ HZ.out)).trans HZ.out)
        have hx1 := HX1.out wf
        refine hK.out _ _ (trivial) (fun hHeld => ?_)
        clear hK K
        try simp only [Act.put, List.setIfInBounds_toArray, List.set_cons_zero, List.set_cons_succ]
        refine wpAnyH_take (i := 3) (oi := { dst := some 34, op := Go.Op.slice 22 (Go.Operand.tmp 33) none (some (Go.Operand.const (Go.Value.int Go.IntKind.i64 1))) none, type := 22, pos := "laws.go:551", after := #[{ on := 2, ground := Go.Ground.data }], guard := none }) (v := ?_) rfl (by kernel_rfl) (by kernel_rfl) (by kernel_rfl) (fun _ _ _ h => h) (Or.inl ⟨by rfl, ?_⟩) hHeld ?_
        rotate_left
        · intro w hSw
          try dsimp only at hSw
          go_simp
          try (with_reducible rfl)
        simp only [Act.put, List.setIfInBounds_toArray, List.set_cons_zero, List.set_cons_succ]
        refine wpAnyH_ready (rs := [4, 7]) (by kernel_rfl) (by decide) ?_
        refine AllReadyH.cons (o := { dst := some 35, op := Go.Op.convert 22 9 (Go.Operand.tmp 34), type := 9, pos := "laws.go:551", after := #[{ on := 3, ground := Go.Ground.data }], guard := none }) rfl (fun K hK => ?_) (AllReadyH.cons (o := { dst := some 38, op := Go.Op.call { callee := Go.Callee.value (Go.Operand.func 8), args := #[Go.Operand.tmp 36, Go.Operand.tmp 37], argTypes := #[22, 3] }, type := 3, pos := "laws.go:551", after := #[{ on := 5, ground := Go.Ground.data }, { on := 6, ground := Go.Ground.data }, { on := 2, ground := Go.Ground.chain }], guard := none }) rfl (fun K hK => ?_) AllReadyH.nil)
        · go_simp
          refine hK.out _ _ (trivial) (fun hHeld => ?_)
          clear hK K
          try simp only [Act.put, List.setIfInBounds_toArray, List.set_cons_zero, List.set_cons_succ]
          refine wpAnyH_ready (rs := [7]) (by kernel_rfl) (by decide) ?_
          refine AllReadyH.cons (o := { dst := some 38, op := Go.Op.call { callee := Go.Callee.value (Go.Operand.func 8), args := #[Go.Operand.tmp 36, Go.Operand.tmp 37], argTypes := #[22, 3] }, type := 3, pos := "laws.go:551", after := #[{ on := 5, ground := Go.Ground.data }, { on := 6, ground := Go.Ground.data }, { on := 2, ground := Go.Ground.chain }], guard := none }) rfl (fun K hK => ?_) AllReadyH.nil
          go_simp
          refine (kA1 _ HCf.out).mono ?_
          rintro e wx ⟨rfl, hwx⟩
          rw [hwx]
          clear hwx wx
          refine hK.out _ _ (trivial) (fun hHeld => ?_)
          clear hK K
          try simp only [Act.put, List.setIfInBounds_toArray, List.set_cons_zero, List.set_cons_succ]
          refine wpAnyH_take (i := 8) (oi := { dst := some 39, op := Go.Op.convert 3 5 (Go.Operand.tmp 38), type := 5, pos := "laws.go:551", after := #[{ on := 7, ground := Go.Ground.data }], guard := none }) (v := ?_) rfl (by kernel_rfl) (by kernel_rfl) (by kernel_rfl) (fun _ _ _ h => h) (Or.inl ⟨by rfl, ?_⟩) hHeld ?_
          rotate_left
          · intro w hSw
            try dsimp only at hSw
            go_simp
            try (with_reducible rfl)
          simp only [Act.put, List.setIfInBounds_toArray, List.set_cons_zero, List.set_cons_succ]
          refine wpAnyH_ready (rs := [9, 14]) (by kernel_rfl) (by decide) ?_
          refine AllReadyH.cons (o := { dst := some 40, op := Go.Op.buildSlice 22 1 #[(0, Go.Operand.tmp 39)], type := 22, pos := "laws.go:551", after := #[{ on := 8, ground := Go.Ground.data }], guard := none }) rfl (fun K hK => ?_) (AllReadyH.cons (o := { dst := some 45, op := Go.Op.call { callee := Go.Callee.value (Go.Operand.func 8), args := #[Go.Operand.tmp 42, Go.Operand.tmp 44], argTypes := #[22, 3] }, type := 3, pos := "laws.go:551", after := #[{ on := 11, ground := Go.Ground.data }, { on := 13, ground := Go.Ground.data }, { on := 7, ground := Go.Ground.chain }], guard := none }) rfl (fun K hK => ?_) AllReadyH.nil)
          · go_simp
            refine hK.out _ _ (trivial) (fun hHeld => ?_)
            clear hK K
            try simp only [Act.put, List.setIfInBounds_toArray, List.set_cons_zero, List.set_cons_succ]
            refine wpAnyH_ready (rs := [10, 14]) (by kernel_rfl) (by decide) ?_
            refine AllReadyH.cons (o := { dst := some 41, op := Go.Op.convert 22 9 (Go.Operand.tmp 40), type := 9, pos := "laws.go:551", after := #[{ on := 9, ground := Go.Ground.data }], guard := none }) rfl (fun K hK => ?_) (AllReadyH.cons (o := { dst := some 45, op := Go.Op.call { callee := Go.Callee.value (Go.Operand.func 8), args := #[Go.Operand.tmp 42, Go.Operand.tmp 44], argTypes := #[22, 3] }, type := 3, pos := "laws.go:551", after := #[{ on := 11, ground := Go.Ground.data }, { on := 13, ground := Go.Ground.data }, { on := 7, ground := Go.Ground.chain }], guard := none }) rfl (fun K hK => ?_) AllReadyH.nil)
            · go_simp
              refine hK.out _ _ (trivial) (fun hHeld => ?_)
              clear hK K
              try simp only [Act.put, List.setIfInBounds_toArray, List.set_cons_zero, List.set_cons_succ]
              refine wpAnyH_ready (rs := [14]) (by kernel_rfl) (by decide) ?_
              refine AllReadyH.cons (o := { dst := some 45, op := Go.Op.call { callee := Go.Callee.value (Go.Operand.func 8), args := #[Go.Operand.tmp 42, Go.Operand.tmp 44], argTypes := #[22, 3] }, type := 3, pos := "laws.go:551", after := #[{ on := 11, ground := Go.Ground.data }, { on := 13, ground := Go.Ground.data }, { on := 7, ground := Go.Ground.chain }], guard := none }) rfl (fun K hK => ?_) AllReadyH.nil
              go_simp
              refine (kA2 _ HCg.out).mono ?_
              rintro e wx ⟨rfl, hwx⟩
              rw [hwx]
              clear hwx wx
              refine hK.out _ _ (trivial) (fun hHeld => ?_)
              clear hK K
              try simp only [Act.put, List.setIfInBounds_toArray, List.set_cons_zero, List.set_cons_succ]
              refine wpAnyH_take (i := 15) (oi := { dst := some 46, op := Go.Op.binOp Go.BinOp.rem 3 (Go.Operand.tmp 45) (Go.Operand.const (Go.Value.int Go.IntKind.i64 2)) 3, type := 3, pos := "laws.go:551", after := #[{ on := 14, ground := Go.Ground.data }], guard := none }) (v := ?_) rfl (by kernel_rfl) (by kernel_rfl) (by kernel_rfl) (fun _ _ _ h => h) (Or.inl ⟨by rfl, ?_⟩) hHeld ?_
              rotate_left
              · intro w hSw
                try dsimp only at hSw
                go_simp
                try (with_reducible rfl)
              simp only [Act.put, List.setIfInBounds_toArray, List.set_cons_zero, List.set_cons_succ]
              refine wpAnyH_take (i := 16) (oi := { dst := some 47, op := Go.Op.slice 9 (Go.Operand.tmp 41) none (some (Go.Operand.tmp 46)) none, type := 9, pos := "laws.go:551", after := #[{ on := 10, ground := Go.Ground.data }, { on := 15, ground := Go.Ground.data }], guard := none }) (v := ?_) rfl (by kernel_rfl) (by kernel_rfl) (by kernel_rfl) (fun _ _ _ h => h) (Or.inl ⟨by rfl, ?_⟩) hHeld ?_
              rotate_left
              · intro w hSw
                try dsimp only at hSw
                go_simp
                try (with_reducible rfl)
              simp only [Act.put, List.setIfInBounds_toArray, List.set_cons_zero, List.set_cons_succ]
              refine wpAnyH_take (i := 17) (oi := { dst := some 48, op := Go.Op.binOp Go.BinOp.add 9 (Go.Operand.tmp 35) (Go.Operand.tmp 47) 9, type := 9, pos := "laws.go:551", after := #[{ on := 4, ground := Go.Ground.data }, { on := 16, ground := Go.Ground.data }], guard := none }) (v := ?_) rfl (by kernel_rfl) (by kernel_rfl) (by kernel_rfl) (fun _ _ _ h => h) (Or.inl ⟨by rfl, ?_⟩) hHeld ?_
              rotate_left
              · intro w hSw
                try dsimp only at hSw
                go_simp
                try (with_reducible rfl)
              simp only [Act.put, List.setIfInBounds_toArray, List.set_cons_zero, List.set_cons_succ]
              refine wpAnyH_take (i := 18) (oi := { dst := some 6, op := Go.Op.assign (Go.Operand.tmp 48), type := 9, pos := "laws.go:551", after := #[{ on := 17, ground := Go.Ground.data }, { on := 14, ground := Go.Ground.chain }, { on := 0, ground := Go.Ground.phase }, { on := 1, ground := Go.Ground.phase }, { on := 2, ground := Go.Ground.phase }, { on := 3, ground := Go.Ground.phase }, { on := 4, ground := Go.Ground.phase }, { on := 5, ground := Go.Ground.phase }, { on := 6, ground := Go.Ground.phase }, { on := 7, ground := Go.Ground.phase }, { on := 8, ground := Go.Ground.phase }, { on := 9, ground := Go.Ground.phase }, { on := 10, ground := Go.Ground.phase }, { on := 11, ground := Go.Ground.phase }, { on := 12, ground := Go.Ground.phase }, { on := 13, ground := Go.Ground.phase }, { on := 14, ground := Go.Ground.phase }, { on := 15, ground := Go.Ground.phase }, { on := 16, ground := Go.Ground.phase }, { on := 17, ground := Go.Ground.phase }], guard := none }) (v := ?_) rfl (by kernel_rfl) (by kernel_rfl) (by kernel_rfl) (fun _ _ _ h => h) (Or.inl ⟨by rfl, ?_⟩) hHeld ?_
              rotate_left
              · intro w hSw
                try dsimp only at hSw
                go_simp
                try (with_reducible rfl)
              simp only [Act.put, List.setIfInBounds_toArray, List.set_cons_zero, List.set_cons_succ]
              refine wpAnyH_done (by kernel_rfl) ?_ _
              go_wp2_with fail
              go_meet
              have HBg : Below wd.heap.size wd (wf.alloc (.cells #[.int .u8 a1] 5)) := HBf.out.alloc HBf.out.size _
              exact ⟨_, rfl, HTS, own_keep HOd.out HBg, HBd.out.trans (HBg.mono HBd.out.size)⟩
            · go_simp
              refine (kA2 _ HCg.out).mono ?_
              rintro e wx ⟨rfl, hwx⟩
              rw [hwx]
              clear hwx wx
              refine hK.out _ _ (trivial) (fun hHeld => ?_)
              clear hK K
              try simp only [Act.put, List.setIfInBounds_toArray, List.set_cons_zero, List.set_cons_succ]
              refine wpAnyH_take (i := 15) (oi := { dst := some 46, op := Go.Op.binOp Go.BinOp.rem 3 (Go.Operand.tmp 45) (Go.Operand.const (Go.Value.int Go.IntKind.i64 2)) 3, type := 3, pos := "laws.go:551", after := #[{ on := 14, ground := Go.Ground.data }], guard := none }) (v := ?_) rfl (by kernel_rfl) (by kernel_rfl) (by kernel_rfl) (fun _ _ _ h => h) (Or.inl ⟨by rfl, ?_⟩) hHeld ?_
              rotate_left
              · intro w hSw
                try dsimp only at hSw
                go_simp
                try (with_reducible rfl)
              simp only [Act.put, List.setIfInBounds_toArray, List.set_cons_zero, List.set_cons_succ]
              refine wpAnyH_ready (rs := [10]) (by kernel_rfl) (by decide) ?_
              refine AllReadyH.cons (o := { dst := some 41, op := Go.Op.convert 22 9 (Go.Operand.tmp 40), type := 9, pos := "laws.go:551", after := #[{ on := 9, ground := Go.Ground.data }], guard := none }) rfl (fun K hK => ?_) AllReadyH.nil
              go_simp
              refine hK.out _ _ (trivial) (fun hHeld => ?_)
              clear hK K
              try simp only [Act.put, List.setIfInBounds_toArray, List.set_cons_zero, List.set_cons_succ]
              refine wpAnyH_take (i := 16) (oi := { dst := some 47, op := Go.Op.slice 9 (Go.Operand.tmp 41) none (some (Go.Operand.tmp 46)) none, type := 9, pos := "laws.go:551", after := #[{ on := 10, ground := Go.Ground.data }, { on := 15, ground := Go.Ground.data }], guard := none }) (v := ?_) rfl (by kernel_rfl) (by kernel_rfl) (by kernel_rfl) (fun _ _ _ h => h) (Or.inl ⟨by rfl, ?_⟩) hHeld ?_
              rotate_left
              · intro w hSw
                try dsimp only at hSw
                go_simp
                try (with_reducible rfl)
              simp only [Act.put, List.setIfInBounds_toArray, List.set_cons_zero, List.set_cons_succ]
              refine wpAnyH_take (i := 17) (oi := { dst := some 48, op := Go.Op.binOp Go.BinOp.add 9 (Go.Operand.tmp 35) (Go.Operand.tmp 47) 9, type := 9, pos := "laws.go:551", after := #[{ on := 4, ground := Go.Ground.data }, { on := 16, ground := Go.Ground.data }], guard := none }) (v := ?_) rfl (by kernel_rfl) (by kernel_rfl) (by kernel_rfl) (fun _ _ _ h => h) (Or.inl ⟨by rfl, ?_⟩) hHeld ?_
              rotate_left
              · intro w hSw
                try dsimp only at hSw
                go_simp
                try (with_reducible rfl)
              simp only [Act.put, List.setIfInBounds_toArray, List.set_cons_zero, List.set_cons_succ]
              refine wpAnyH_take (i := 18) (oi := { dst := some 6, op := Go.Op.assign (Go.Operand.tmp 48), type := 9, pos := "laws.go:551", after := #[{ on := 17, ground := Go.Ground.data }, { on := 14, ground := Go.Ground.chain }, { on := 0, ground := Go.Ground.phase }, { on := 1, ground := Go.Ground.phase }, { on := 2, ground := Go.Ground.phase }, { on := 3, ground := Go.Ground.phase }, { on := 4, ground := Go.Ground.phase }, { on := 5, ground := Go.Ground.phase }, { on := 6, ground := Go.Ground.phase }, { on := 7, ground := Go.Ground.phase }, { on := 8, ground := Go.Ground.phase }, { on := 9, ground := Go.Ground.phase }, { on := 10, ground := Go.Ground.phase }, { on := 11, ground := Go.Ground.phase }, { on := 12, ground := Go.Ground.phase }, { on := 13, ground := Go.Ground.phase }, { on := 14, ground := Go.Ground.phase }, { on := 15, ground := Go.Ground.phase }, { on := 16, ground := Go.Ground.phase }, { on := 17, ground := Go.Ground.phase }], guard := none }) (v := ?_) rfl (by kernel_rfl) (by kernel_rfl) (by kernel_rfl) (fun _ _ _ h => h) (Or.inl ⟨by rfl, ?_⟩) hHeld ?_
              rotate_left
              · intro w hSw
                try dsimp only at hSw
                go_simp
                try (with_reducible rfl)
              simp only [Act.put, List.setIfInBounds_toArray, List.set_cons_zero, List.set_cons_succ]
              refine wpAnyH_done (by kernel_rfl) ?_ _
              go_wp2_with fail
              go_meet
              have HBg : Below wd.heap.size wd (wf.alloc (.cells #[.int .u8 a1] 5)) := HBf.out.alloc HBf.out.size _
              exact ⟨_, rfl, HTS, own_keep HOd.out HBg, HBd.out.trans (HBg.mono HBd.out.size)⟩
          · go_simp
            refine (kA2 _ HCf.out).mono ?_
            rintro e wx ⟨rfl, hwx⟩
            rw [hwx]
            clear hwx wx
            refine hK.out _ _ (trivial) (fun hHeld => ?_)
            clear hK K
            try simp only [Act.put, List.setIfInBounds_toArray, List.set_cons_zero, List.set_cons_succ]
            refine wpAnyH_take (i := 15) (oi := { dst := some 46, op := Go.Op.binOp Go.BinOp.rem 3 (Go.Operand.tmp 45) (Go.Operand.const (Go.Value.int Go.IntKind.i64 2)) 3, type := 3, pos := "laws.go:551", after := #[{ on := 14, ground := Go.Ground.data }], guard := none }) (v := ?_) rfl (by kernel_rfl) (by kernel_rfl) (by kernel_rfl) (fun _ _ _ h => h) (Or.inl ⟨by rfl, ?_⟩) hHeld ?_
            rotate_left
            · intro w hSw
              try dsimp only at hSw
              go_simp
              try (with_reducible rfl)
            simp only [Act.put, List.setIfInBounds_toArray, List.set_cons_zero, List.set_cons_succ]
            refine wpAnyH_ready (rs := [9]) (by kernel_rfl) (by decide) ?_
            refine AllReadyH.cons (o := { dst := some 40, op := Go.Op.buildSlice 22 1 #[(0, Go.Operand.tmp 39)], type := 22, pos := "laws.go:551", after := #[{ on := 8, ground := Go.Ground.data }], guard := none }) rfl (fun K hK => ?_) AllReadyH.nil
            go_simp
            refine hK.out _ _ (trivial) (fun hHeld => ?_)
            clear hK K
            try simp only [Act.put, List.setIfInBounds_toArray, List.set_cons_zero, List.set_cons_succ]
            refine wpAnyH_ready (rs := [10]) (by kernel_rfl) (by decide) ?_
            refine AllReadyH.cons (o := { dst := some 41, op := Go.Op.convert 22 9 (Go.Operand.tmp 40), type := 9, pos := "laws.go:551", after := #[{ on := 9, ground := Go.Ground.data }], guard := none }) rfl (fun K hK => ?_) AllReadyH.nil
            go_simp
            refine hK.out _ _ (trivial) (fun hHeld => ?_)
            clear hK K
            try simp only [Act.put, List.setIfInBounds_toArray, List.set_cons_zero, List.set_cons_succ]
            refine wpAnyH_take (i := 16) (oi := { dst := some 47, op := Go.Op.slice 9 (Go.Operand.tmp 41) none (some (Go.Operand.tmp 46)) none, type := 9, pos := "laws.go:551", after := #[{ on := 10, ground := Go.Ground.data }, { on := 15, ground := Go.Ground.data }], guard := none }) (v := ?_) rfl (by kernel_rfl) (by kernel_rfl) (by kernel_rfl) (fun _ _ _ h => h) (Or.inl ⟨by rfl, ?_⟩) hHeld ?_
            rotate_left
            · intro w hSw
              try dsimp only at hSw
              go_simp
              try (with_reducible rfl)
            simp only [Act.put, List.setIfInBounds_toArray, List.set_cons_zero, List.set_cons_succ]
            refine wpAnyH_take (i := 17) (oi := { dst := some 48, op := Go.Op.binOp Go.BinOp.add 9 (Go.Operand.tmp 35) (Go.Operand.tmp 47) 9, type := 9, pos := "laws.go:551", after := #[{ on := 4, ground := Go.Ground.data }, { on := 16, ground := Go.Ground.data }], guard := none }) (v := ?_) rfl (by kernel_rfl) (by kernel_rfl) (by kernel_rfl) (fun _ _ _ h => h) (Or.inl ⟨by rfl, ?_⟩) hHeld ?_
            rotate_left
            · intro w hSw
              try dsimp only at hSw
              go_simp
              try (with_reducible rfl)
            simp only [Act.put, List.setIfInBounds_toArray, List.set_cons_zero, List.set_cons_succ]
            refine wpAnyH_take (i := 18) (oi := { dst := some 6, op := Go.Op.assign (Go.Operand.tmp 48), type := 9, pos := "laws.go:551", after := #[{ on := 17, ground := Go.Ground.data }, { on := 14, ground := Go.Ground.chain }, { on := 0, ground := Go.Ground.phase }, { on := 1, ground := Go.Ground.phase }, { on := 2, ground := Go.Ground.phase }, { on := 3, ground := Go.Ground.phase }, { on := 4, ground := Go.Ground.phase }, { on := 5, ground := Go.Ground.phase }, { on := 6, ground := Go.Ground.phase }, { on := 7, ground := Go.Ground.phase }, { on := 8, ground := Go.Ground.phase }, { on := 9, ground := Go.Ground.phase }, { on := 10, ground := Go.Ground.phase }, { on := 11, ground := Go.Ground.phase }, { on := 12, ground := Go.Ground.phase }, { on := 13, ground := Go.Ground.phase }, { on := 14, ground := Go.Ground.phase }, { on := 15, ground := Go.Ground.phase }, { on := 16, ground := Go.Ground.phase }, { on := 17, ground := Go.Ground.phase }], guard := none }) (v := ?_) rfl (by kernel_rfl) (by kernel_rfl) (by kernel_rfl) (fun _ _ _ h => h) (Or.inl ⟨by rfl, ?_⟩) hHeld ?_
            rotate_left
            · intro w hSw
              try dsimp only at hSw
              go_simp
              try (with_reducible rfl)
            simp only [Act.put, List.setIfInBounds_toArray, List.set_cons_zero, List.set_cons_succ]
            refine wpAnyH_done (by kernel_rfl) ?_ _
            go_wp2_with fail
            go_meet
            have HBg : Below wd.heap.size wd (wf.alloc (.cells #[.int .u8 a1] 5)) := HBf.out.alloc HBf.out.size _
            exact ⟨_, rfl, HTS, own_keep HOd.out HBg, HBd.out.trans (HBg.mono HBd.out.size)⟩
        · go_simp
          refine (kA1 _ HCf.out).mono ?_
          rintro e wx ⟨rfl, hwx⟩
          rw [hwx]
          clear hwx wx
          refine hK.out _ _ (trivial) (fun hHeld => ?_)
          clear hK K
          try simp only [Act.put, List.setIfInBounds_toArray, List.set_cons_zero, List.set_cons_succ]
          refine wpAnyH_take (i := 8) (oi := { dst := some 39, op := Go.Op.convert 3 5 (Go.Operand.tmp 38), type := 5, pos := "laws.go:551", after := #[{ on := 7, ground := Go.Ground.data }], guard := none }) (v := ?_) rfl (by kernel_rfl) (by kernel_rfl) (by kernel_rfl) (fun _ _ _ h => h) (Or.inl ⟨by rfl, ?_⟩) hHeld ?_
          rotate_left
          · intro w hSw
            try dsimp only at hSw
            go_simp
            try (with_reducible rfl)
          simp only [Act.put, List.setIfInBounds_toArray, List.set_cons_zero, List.set_cons_succ]
          refine wpAnyH_ready (rs := [4, 9, 14]) (by kernel_rfl) (by decide) ?_
          refine AllReadyH.cons (o := { dst := some 35, op := Go.Op.convert 22 9 (Go.Operand.tmp 34), type := 9, pos := "laws.go:551", after := #[{ on := 3, ground := Go.Ground.data }], guard := none }) rfl (fun K hK => ?_) (AllReadyH.cons (o := { dst := some 40, op := Go.Op.buildSlice 22 1 #[(0, Go.Operand.tmp 39)], type := 22, pos := "laws.go:551", after := #[{ on := 8, ground := Go.Ground.data }], guard := none }) rfl (fun K hK => ?_) (AllReadyH.cons (o := { dst := some 45, op := Go.Op.call { callee := Go.Callee.value (Go.Operand.func 8), args := #[Go.Operand.tmp 42, Go.Operand.tmp 44], argTypes := #[22, 3] }, type := 3, pos := "laws.go:551", after := #[{ on := 11, ground := Go.Ground.data }, { on := 13, ground := Go.Ground.data }, { on := 7, ground := Go.Ground.chain }], guard := none }) rfl (fun K hK => ?_) AllReadyH.nil))
          · go_simp
            refine hK.out _ _ (trivial) (fun hHeld => ?_)
            clear hK K
            try simp only [Act.put, List.setIfInBounds_toArray, List.set_cons_zero, List.set_cons_succ]
            refine wpAnyH_ready (rs := [9, 14]) (by kernel_rfl) (by decide) ?_
            refine AllReadyH.cons (o := { dst := some 40, op := Go.Op.buildSlice 22 1 #[(0, Go.Operand.tmp 39)], type := 22, pos := "laws.go:551", after := #[{ on := 8, ground := Go.Ground.data }], guard := none }) rfl (fun K hK => ?_) (AllReadyH.cons (o := { dst := some 45, op := Go.Op.call { callee := Go.Callee.value (Go.Operand.func 8), args := #[Go.Operand.tmp 42, Go.Operand.tmp 44], argTypes := #[22, 3] }, type := 3, pos := "laws.go:551", after := #[{ on := 11, ground := Go.Ground.data }, { on := 13, ground := Go.Ground.data }, { on := 7, ground := Go.Ground.chain }], guard := none }) rfl (fun K hK => ?_) AllReadyH.nil)
            · go_simp
              refine hK.out _ _ (trivial) (fun hHeld => ?_)
              clear hK K
              try simp only [Act.put, List.setIfInBounds_toArray, List.set_cons_zero, List.set_cons_succ]
              refine wpAnyH_ready (rs := [10, 14]) (by kernel_rfl) (by decide) ?_
              refine AllReadyH.cons (o := { dst := some 41, op := Go.Op.convert 22 9 (Go.Operand.tmp 40), type := 9, pos := "laws.go:551", after := #[{ on := 9, ground := Go.Ground.data }], guard := none }) rfl (fun K hK => ?_) (AllReadyH.cons (o := { dst := some 45, op := Go.Op.call { callee := Go.Callee.value (Go.Operand.func 8), args := #[Go.Operand.tmp 42, Go.Operand.tmp 44], argTypes := #[22, 3] }, type := 3, pos := "laws.go:551", after := #[{ on := 11, ground := Go.Ground.data }, { on := 13, ground := Go.Ground.data }, { on := 7, ground := Go.Ground.chain }], guard := none }) rfl (fun K hK => ?_) AllReadyH.nil)
              · go_simp
                refine hK.out _ _ (trivial) (fun hHeld => ?_)
                clear hK K
                try simp only [Act.put, List.setIfInBounds_toArray, List.set_cons_zero, List.set_cons_succ]
                refine wpAnyH_ready (rs := [14]) (by kernel_rfl) (by decide) ?_
                refine AllReadyH.cons (o := { dst := some 45, op := Go.Op.call { callee := Go.Callee.value (Go.Operand.func 8), args := #[Go.Operand.tmp 42, Go.Operand.tmp 44], argTypes := #[22, 3] }, type := 3, pos := "laws.go:551", after := #[{ on := 11, ground := Go.Ground.data }, { on := 13, ground := Go.Ground.data }, { on := 7, ground := Go.Ground.chain }], guard := none }) rfl (fun K hK => ?_) AllReadyH.nil
                go_simp
                refine (kA2 _ HCg.out).mono ?_
                rintro e wx ⟨rfl, hwx⟩
                rw [hwx]
                clear hwx wx
                refine hK.out _ _ (trivial) (fun hHeld => ?_)
                clear hK K
                try simp only [Act.put, List.setIfInBounds_toArray, List.set_cons_zero, List.set_cons_succ]
                refine wpAnyH_take (i := 15) (oi := { dst := some 46, op := Go.Op.binOp Go.BinOp.rem 3 (Go.Operand.tmp 45) (Go.Operand.const (Go.Value.int Go.IntKind.i64 2)) 3, type := 3, pos := "laws.go:551", after := #[{ on := 14, ground := Go.Ground.data }], guard := none }) (v := ?_) rfl (by kernel_rfl) (by kernel_rfl) (by kernel_rfl) (fun _ _ _ h => h) (Or.inl ⟨by rfl, ?_⟩) hHeld ?_
                rotate_left
                · intro w hSw
                  try dsimp only at hSw
                  go_simp
                  try (with_reducible rfl)
                simp only [Act.put, List.setIfInBounds_toArray, List.set_cons_zero, List.set_cons_succ]
                refine wpAnyH_take (i := 16) (oi := { dst := some 47, op := Go.Op.slice 9 (Go.Operand.tmp 41) none (some (Go.Operand.tmp 46)) none, type := 9, pos := "laws.go:551", after := #[{ on := 10, ground := Go.Ground.data }, { on := 15, ground := Go.Ground.data }], guard := none }) (v := ?_) rfl (by kernel_rfl) (by kernel_rfl) (by kernel_rfl) (fun _ _ _ h => h) (Or.inl ⟨by rfl, ?_⟩) hHeld ?_
                rotate_left
                · intro w hSw
                  try dsimp only at hSw
                  go_simp
                  try (with_reducible rfl)
                simp only [Act.put, List.setIfInBounds_toArray, List.set_cons_zero, List.set_cons_succ]
                refine wpAnyH_take (i := 17) (oi := { dst := some 48, op := Go.Op.binOp Go.BinOp.add 9 (Go.Operand.tmp 35) (Go.Operand.tmp 47) 9, type := 9, pos := "laws.go:551", after := #[{ on := 4, ground := Go.Ground.data }, { on := 16, ground := Go.Ground.data }], guard := none }) (v := ?_) rfl (by kernel_rfl) (by kernel_rfl) (by kernel_rfl) (fun _ _ _ h => h) (Or.inl ⟨by rfl, ?_⟩) hHeld ?_
                rotate_left
                · intro w hSw
                  try dsimp only at hSw
                  go_simp
                  try (with_reducible rfl)
                simp only [Act.put, List.setIfInBounds_toArray, List.set_cons_zero, List.set_cons_succ]
                refine wpAnyH_take (i := 18) (oi := { dst := some 6, op := Go.Op.assign (Go.Operand.tmp 48), type := 9, pos := "laws.go:551", after := #[{ on := 17, ground := Go.Ground.data }, { on := 14, ground := Go.Ground.chain }, { on := 0, ground := Go.Ground.phase }, { on := 1, ground := Go.Ground.phase }, { on := 2, ground := Go.Ground.phase }, { on := 3, ground := Go.Ground.phase }, { on := 4, ground := Go.Ground.phase }, { on := 5, ground := Go.Ground.phase }, { on := 6, ground := Go.Ground.phase }, { on := 7, ground := Go.Ground.phase }, { on := 8, ground := Go.Ground.phase }, { on := 9, ground := Go.Ground.phase }, { on := 10, ground := Go.Ground.phase }, { on := 11, ground := Go.Ground.phase }, { on := 12, ground := Go.Ground.phase }, { on := 13, ground := Go.Ground.phase }, { on := 14, ground := Go.Ground.phase }, { on := 15, ground := Go.Ground.phase }, { on := 16, ground := Go.Ground.phase }, { on := 17, ground := Go.Ground.phase }], guard := none }) (v := ?_) rfl (by kernel_rfl) (by kernel_rfl) (by kernel_rfl) (fun _ _ _ h => h) (Or.inl ⟨by rfl, ?_⟩) hHeld ?_
                rotate_left
                · intro w hSw
                  try dsimp only at hSw
                  go_simp
                  try (with_reducible rfl)
                simp only [Act.put, List.setIfInBounds_toArray, List.set_cons_zero, List.set_cons_succ]
                refine wpAnyH_done (by kernel_rfl) ?_ _
                go_wp2_with fail
                go_meet
                have HBg : Below wd.heap.size wd (wf.alloc (.cells #[.int .u8 a1] 5)) := HBf.out.alloc HBf.out.size _
                exact ⟨_, rfl, HTS, own_keep HOd.out HBg, HBd.out.trans (HBg.mono HBd.out.size)⟩
              · go_simp
                refine (kA2 _ HCg.out).mono ?_
                rintro e wx ⟨rfl, hwx⟩
                rw [hwx]
                clear hwx wx
                refine hK.out _ _ (trivial) (fun hHeld => ?_)
                clear hK K
                try simp only [Act.put, List.setIfInBounds_toArray, List.set_cons_zero, List.set_cons_succ]
                refine wpAnyH_take (i := 15) (oi := { dst := some 46, op := Go.Op.binOp Go.BinOp.rem 3 (Go.Operand.tmp 45) (Go.Operand.const (Go.Value.int Go.IntKind.i64 2)) 3, type := 3, pos := "laws.go:551", after := #[{ on := 14, ground := Go.Ground.data }], guard := none }) (v := ?_) rfl (by kernel_rfl) (by kernel_rfl) (by kernel_rfl) (fun _ _ _ h => h) (Or.inl ⟨by rfl, ?_⟩) hHeld ?_
                rotate_left
                · intro w hSw
                  try dsimp only at hSw
                  go_simp
                  try (with_reducible rfl)
                simp only [Act.put, List.setIfInBounds_toArray, List.set_cons_zero, List.set_cons_succ]
                refine wpAnyH_ready (rs := [10]) (by kernel_rfl) (by decide) ?_
                refine AllReadyH.cons (o := { dst := some 41, op := Go.Op.convert 22 9 (Go.Operand.tmp 40), type := 9, pos := "laws.go:551", after := #[{ on := 9, ground := Go.Ground.data }], guard := none }) rfl (fun K hK => ?_) AllReadyH.nil
                go_simp
                refine hK.out _ _ (trivial) (fun hHeld => ?_)
                clear hK K
                try simp only [Act.put, List.setIfInBounds_toArray, List.set_cons_zero, List.set_cons_succ]
                refine wpAnyH_take (i := 16) (oi := { dst := some 47, op := Go.Op.slice 9 (Go.Operand.tmp 41) none (some (Go.Operand.tmp 46)) none, type := 9, pos := "laws.go:551", after := #[{ on := 10, ground := Go.Ground.data }, { on := 15, ground := Go.Ground.data }], guard := none }) (v := ?_) rfl (by kernel_rfl) (by kernel_rfl) (by kernel_rfl) (fun _ _ _ h => h) (Or.inl ⟨by rfl, ?_⟩) hHeld ?_
                rotate_left
                · intro w hSw
                  try dsimp only at hSw
                  go_simp
                  try (with_reducible rfl)
                simp only [Act.put, List.setIfInBounds_toArray, List.set_cons_zero, List.set_cons_succ]
                refine wpAnyH_take (i := 17) (oi := { dst := some 48, op := Go.Op.binOp Go.BinOp.add 9 (Go.Operand.tmp 35) (Go.Operand.tmp 47) 9, type := 9, pos := "laws.go:551", after := #[{ on := 4, ground := Go.Ground.data }, { on := 16, ground := Go.Ground.data }], guard := none }) (v := ?_) rfl (by kernel_rfl) (by kernel_rfl) (by kernel_rfl) (fun _ _ _ h => h) (Or.inl ⟨by rfl, ?_⟩) hHeld ?_
                rotate_left
                · intro w hSw
                  try dsimp only at hSw
                  go_simp
                  try (with_reducible rfl)
                simp only [Act.put, List.setIfInBounds_toArray, List.set_cons_zero, List.set_cons_succ]
                refine wpAnyH_take (i := 18) (oi := { dst := some 6, op := Go.Op.assign (Go.Operand.tmp 48), type := 9, pos := "laws.go:551", after := #[{ on := 17, ground := Go.Ground.data }, { on := 14, ground := Go.Ground.chain }, { on := 0, ground := Go.Ground.phase }, { on := 1, ground := Go.Ground.phase }, { on := 2, ground := Go.Ground.phase }, { on := 3, ground := Go.Ground.phase }, { on := 4, ground := Go.Ground.phase }, { on := 5, ground := Go.Ground.phase }, { on := 6, ground := Go.Ground.phase }, { on := 7, ground := Go.Ground.phase }, { on := 8, ground := Go.Ground.phase }, { on := 9, ground := Go.Ground.phase }, { on := 10, ground := Go.Ground.phase }, { on := 11, ground := Go.Ground.phase }, { on := 12, ground := Go.Ground.phase }, { on := 13, ground := Go.Ground.phase }, { on := 14, ground := Go.Ground.phase }, { on := 15, ground := Go.Ground.phase }, { on := 16, ground := Go.Ground.phase }, { on := 17, ground := Go.Ground.phase }], guard := none }) (v := ?_) rfl (by kernel_rfl) (by kernel_rfl) (by kernel_rfl) (fun _ _ _ h => h) (Or.inl ⟨by rfl, ?_⟩) hHeld ?_
                rotate_left
                · intro w hSw
                  try dsimp only at hSw
                  go_simp
                  try (with_reducible rfl)
                simp only [Act.put, List.setIfInBounds_toArray, List.set_cons_zero, List.set_cons_succ]
                refine wpAnyH_done (by kernel_rfl) ?_ _
                go_wp2_with fail
                go_meet
                have HBg : Below wd.heap.size wd (wf.alloc (.cells #[.int .u8 a1] 5)) := HBf.out.alloc HBf.out.size _
                exact ⟨_, rfl, HTS, own_keep HOd.out HBg, HBd.out.trans (HBg.mono HBd.out.size)⟩
            · go_simp
              refine (kA2 _ HCf.out).mono ?_
              rintro e wx ⟨rfl, hwx⟩
              rw [hwx]
              clear hwx wx
              refine hK.out _ _ (trivial) (fun hHeld => ?_)
              clear hK K
              try simp only [Act.put, List.setIfInBounds_toArray, List.set_cons_zero, List.set_cons_succ]
              refine wpAnyH_take (i := 15) (oi := { dst := some 46, op := Go.Op.binOp Go.BinOp.rem 3 (Go.Operand.tmp 45) (Go.Operand.const (Go.Value.int Go.IntKind.i64 2)) 3, type := 3, pos := "laws.go:551", after := #[{ on := 14, ground := Go.Ground.data }], guard := none }) (v := ?_) rfl (by kernel_rfl) (by kernel_rfl) (by kernel_rfl) (fun _ _ _ h => h) (Or.inl ⟨by rfl, ?_⟩) hHeld ?_
              rotate_left
              · intro w hSw
                try dsimp only at hSw
                go_simp
                try (with_reducible rfl)
              simp only [Act.put, List.setIfInBounds_toArray, List.set_cons_zero, List.set_cons_succ]
              refine wpAnyH_ready (rs := [9]) (by kernel_rfl) (by decide) ?_
              refine AllReadyH.cons (o := { dst := some 40, op := Go.Op.buildSlice 22 1 #[(0, Go.Operand.tmp 39)], type := 22, pos := "laws.go:551", after := #[{ on := 8, ground := Go.Ground.data }], guard := none }) rfl (fun K hK => ?_) AllReadyH.nil
              go_simp
              refine hK.out _ _ (trivial) (fun hHeld => ?_)
              clear hK K
              try simp only [Act.put, List.setIfInBounds_toArray, List.set_cons_zero, List.set_cons_succ]
              refine wpAnyH_ready (rs := [10]) (by kernel_rfl) (by decide) ?_
              refine AllReadyH.cons (o := { dst := some 41, op := Go.Op.convert 22 9 (Go.Operand.tmp 40), type := 9, pos := "laws.go:551", after := #[{ on := 9, ground := Go.Ground.data }], guard := none }) rfl (fun K hK => ?_) AllReadyH.nil
              go_simp
              refine hK.out _ _ (trivial) (fun hHeld => ?_)
              clear hK K
              try simp only [Act.put, List.setIfInBounds_toArray, List.set_cons_zero, List.set_cons_succ]
              refine wpAnyH_take (i := 16) (oi := { dst := some 47, op := Go.Op.slice 9 (Go.Operand.tmp 41) none (some (Go.Operand.tmp 46)) none, type := 9, pos := "laws.go:551", after := #[{ on := 10, ground := Go.Ground.data }, { on := 15, ground := Go.Ground.data }], guard := none }) (v := ?_) rfl (by kernel_rfl) (by kernel_rfl) (by kernel_rfl) (fun _ _ _ h => h) (Or.inl ⟨by rfl, ?_⟩) hHeld ?_
              rotate_left
              · intro w hSw
                try dsimp only at hSw
                go_simp
                try (with_reducible rfl)
              simp only [Act.put, List.setIfInBounds_toArray, List.set_cons_zero, List.set_cons_succ]
              refine wpAnyH_take (i := 17) (oi := { dst := some 48, op := Go.Op.binOp Go.BinOp.add 9 (Go.Operand.tmp 35) (Go.Operand.tmp 47) 9, type := 9, pos := "laws.go:551", after := #[{ on := 4, ground := Go.Ground.data }, { on := 16, ground := Go.Ground.data }], guard := none }) (v := ?_) rfl (by kernel_rfl) (by kernel_rfl) (by kernel_rfl) (fun _ _ _ h => h) (Or.inl ⟨by rfl, ?_⟩) hHeld ?_
              rotate_left
              · intro w hSw
                try dsimp only at hSw
                go_simp
                try (with_reducible rfl)
              simp only [Act.put, List.setIfInBounds_toArray, List.set_cons_zero, List.set_cons_succ]
              refine wpAnyH_take (i := 18) (oi := { dst := some 6, op := Go.Op.assign (Go.Operand.tmp 48), type := 9, pos := "laws.go:551", after := #[{ on := 17, ground := Go.Ground.data }, { on := 14, ground := Go.Ground.chain }, { on := 0, ground := Go.Ground.phase }, { on := 1, ground := Go.Ground.phase }, { on := 2, ground := Go.Ground.phase }, { on := 3, ground := Go.Ground.phase }, { on := 4, ground := Go.Ground.phase }, { on := 5, ground := Go.Ground.phase }, { on := 6, ground := Go.Ground.phase }, { on := 7, ground := Go.Ground.phase }, { on := 8, ground := Go.Ground.phase }, { on := 9, ground := Go.Ground.phase }, { on := 10, ground := Go.Ground.phase }, { on := 11, ground := Go.Ground.phase }, { on := 12, ground := Go.Ground.phase }, { on := 13, ground := Go.Ground.phase }, { on := 14, ground := Go.Ground.phase }, { on := 15, ground := Go.Ground.phase }, { on := 16, ground := Go.Ground.phase }, { on := 17, ground := Go.Ground.phase }], guard := none }) (v := ?_) rfl (by kernel_rfl) (by kernel_rfl) (by kernel_rfl) (fun _ _ _ h => h) (Or.inl ⟨by rfl, ?_⟩) hHeld ?_
              rotate_left
              · intro w hSw
                try dsimp only at hSw
                go_simp
                try (with_reducible rfl)
              simp only [Act.put, List.setIfInBounds_toArray, List.set_cons_zero, List.set_cons_succ]
              refine wpAnyH_done (by kernel_rfl) ?_ _
              go_wp2_with fail
              go_meet
              have HBg : Below wd.heap.size wd (wf.alloc (.cells #[.int .u8 a1] 5)) := HBf.out.alloc HBf.out.size _
              exact ⟨_, rfl, HTS, own_keep HOd.out HBg, HBd.out.trans (HBg.mono HBd.out.size)⟩
          · go_simp
            refine hK.out _ _ (trivial) (fun hHeld => ?_)
            clear hK K
            try simp only [Act.put, List.setIfInBounds_toArray, List.set_cons_zero, List.set_cons_succ]
            refine wpAnyH_ready (rs := [4, 10, 14]) (by kernel_rfl) (by decide) ?_
            refine AllReadyH.cons (o := { dst := some 35, op := Go.Op.convert 22 9 (Go.Operand.tmp 34), type := 9, pos := "laws.go:551", after := #[{ on := 3, ground := Go.Ground.data }], guard := none }) rfl (fun K hK => ?_) (AllReadyH.cons (o := { dst := some 41, op := Go.Op.convert 22 9 (Go.Operand.tmp 40), type := 9, pos := "laws.go:551", after := #[{ on := 9, ground := Go.Ground.data }], guard := none }) rfl (fun K hK => ?_) (AllReadyH.cons (o := { dst := some 45, op := Go.Op.call { callee := Go.Callee.value (Go.Operand.func 8), args := #[Go.Operand.tmp 42, Go.Operand.tmp 44], argTypes := #[22, 3] }, type := 3, pos := "laws.go:551", after := #[{ on := 11, ground := Go.Ground.data }, { on := 13, ground := Go.Ground.data }, { on := 7, ground := Go.Ground.chain }], guard := none }) rfl (fun K hK => ?_) AllReadyH.nil))
            · go_simp
              refine hK.out _ _ (trivial) (fun hHeld => ?_)
              clear hK K
              try simp only [Act.put, List.setIfInBounds_toArray, List.set_cons_zero, List.set_cons_succ]
              refine wpAnyH_ready (rs := [10, 14]) (by kernel_rfl) (by decide) ?_
              refine AllReadyH.cons (o := { dst := some 41, op := Go.Op.convert 22 9 (Go.Operand.tmp 40), type := 9, pos := "laws.go:551", after := #[{ on := 9, ground := Go.Ground.data }], guard := none }) rfl (fun K hK => ?_) (AllReadyH.cons (o := { dst := some 45, op := Go.Op.call { callee := Go.Callee.value (Go.Operand.func 8), args := #[Go.Operand.tmp 42, Go.Operand.tmp 44], argTypes := #[22, 3] }, type := 3, pos := "laws.go:551", after := #[{ on := 11, ground := Go.Ground.data }, { on := 13, ground := Go.Ground.data }, { on := 7, ground := Go.Ground.chain }], guard := none }) rfl (fun K hK => ?_) AllReadyH.nil)
              · go_simp
                refine hK.out _ _ (trivial) (fun hHeld => ?_)
                clear hK K
                try simp only [Act.put, List.setIfInBounds_toArray, List.set_cons_zero, List.set_cons_succ]
                refine wpAnyH_ready (rs := [14]) (by kernel_rfl) (by decide) ?_
                refine AllReadyH.cons (o := { dst := some 45, op := Go.Op.call { callee := Go.Callee.value (Go.Operand.func 8), args := #[Go.Operand.tmp 42, Go.Operand.tmp 44], argTypes := #[22, 3] }, type := 3, pos := "laws.go:551", after := #[{ on := 11, ground := Go.Ground.data }, { on := 13, ground := Go.Ground.data }, { on := 7, ground := Go.Ground.chain }], guard := none }) rfl (fun K hK => ?_) AllReadyH.nil
                go_simp
                refine (kA2 _ HCg.out).mono ?_
                rintro e wx ⟨rfl, hwx⟩
                rw [hwx]
                clear hwx wx
                refine hK.out _ _ (trivial) (fun hHeld => ?_)
                clear hK K
                try simp only [Act.put, List.setIfInBounds_toArray, List.set_cons_zero, List.set_cons_succ]
                refine wpAnyH_take (i := 15) (oi := { dst := some 46, op := Go.Op.binOp Go.BinOp.rem 3 (Go.Operand.tmp 45) (Go.Operand.const (Go.Value.int Go.IntKind.i64 2)) 3, type := 3, pos := "laws.go:551", after := #[{ on := 14, ground := Go.Ground.data }], guard := none }) (v := ?_) rfl (by kernel_rfl) (by kernel_rfl) (by kernel_rfl) (fun _ _ _ h => h) (Or.inl ⟨by rfl, ?_⟩) hHeld ?_
                rotate_left
                · intro w hSw
                  try dsimp only at hSw
                  go_simp
                  try (with_reducible rfl)
                simp only [Act.put, List.setIfInBounds_toArray, List.set_cons_zero, List.set_cons_succ]
                refine wpAnyH_take (i := 16) (oi := { dst := some 47, op := Go.Op.slice 9 (Go.Operand.tmp 41) none (some (Go.Operand.tmp 46)) none, type := 9, pos := "laws.go:551", after := #[{ on := 10, ground := Go.Ground.data }, { on := 15, ground := Go.Ground.data }], guard := none }) (v := ?_) rfl (by kernel_rfl) (by kernel_rfl) (by kernel_rfl) (fun _ _ _ h => h) (Or.inl ⟨by rfl, ?_⟩) hHeld ?_
                rotate_left
                · intro w hSw
                  try dsimp only at hSw
                  go_simp
                  try (with_reducible rfl)
                simp only [Act.put, List.setIfInBounds_toArray, List.set_cons_zero, List.set_cons_succ]
                refine wpAnyH_take (i := 17) (oi := { dst := some 48, op := Go.Op.binOp Go.BinOp.add 9 (Go.Operand.tmp 35) (Go.Operand.tmp 47) 9, type := 9, pos := "laws.go:551", after := #[{ on := 4, ground := Go.Ground.data }, { on := 16, ground := Go.Ground.data }], guard := none }) (v := ?_) rfl (by kernel_rfl) (by kernel_rfl) (by kernel_rfl) (fun _ _ _ h => h) (Or.inl ⟨by rfl, ?_⟩) hHeld ?_
                rotate_left
                · intro w hSw
                  try dsimp only at hSw
                  go_simp
                  try (with_reducible rfl)
                simp only [Act.put, List.setIfInBounds_toArray, List.set_cons_zero, List.set_cons_succ]
                refine wpAnyH_take (i := 18) (oi := { dst := some 6, op := Go.Op.assign (Go.Operand.tmp 48), type := 9, pos := "laws.go:551", after := #[{ on := 17, ground := Go.Ground.data }, { on := 14, ground := Go.Ground.chain }, { on := 0, ground := Go.Ground.phase }, { on := 1, ground := Go.Ground.phase }, { on := 2, ground := Go.Ground.phase }, { on := 3, ground := Go.Ground.phase }, { on := 4, ground := Go.Ground.phase }, { on := 5, ground := Go.Ground.phase }, { on := 6, ground := Go.Ground.phase }, { on := 7, ground := Go.Ground.phase }, { on := 8, ground := Go.Ground.phase }, { on := 9, ground := Go.Ground.phase }, { on := 10, ground := Go.Ground.phase }, { on := 11, ground := Go.Ground.phase }, { on := 12, ground := Go.Ground.phase }, { on := 13, ground := Go.Ground.phase }, { on := 14, ground := Go.Ground.phase }, { on := 15, ground := Go.Ground.phase }, { on := 16, ground := Go.Ground.phase }, { on := 17, ground := Go.Ground.phase }], guard := none }) (v := ?_) rfl (by kernel_rfl) (by kernel_rfl) (by kernel_rfl) (fun _ _ _ h => h) (Or.inl ⟨by rfl, ?_⟩) hHeld ?_
                rotate_left
                · intro w hSw
                  try dsimp only at hSw
                  go_simp
                  try (with_reducible rfl)
                simp only [Act.put, List.setIfInBounds_toArray, List.set_cons_zero, List.set_cons_succ]
                refine wpAnyH_done (by kernel_rfl) ?_ _
                go_wp2_with fail
                go_meet
                have HBg : Below wd.heap.size wd (wf.alloc (.cells #[.int .u8 a1] 5)) := HBf.out.alloc HBf.out.size _
                exact ⟨_, rfl, HTS, own_keep HOd.out HBg, HBd.out.trans (HBg.mono HBd.out.size)⟩
              · go_simp
                refine (kA2 _ HCg.out).mono ?_
                rintro e wx ⟨rfl, hwx⟩
                rw [hwx]
                clear hwx wx
                refine hK.out _ _ (trivial) (fun hHeld => ?_)
                clear hK K
                try simp only [Act.put, List.setIfInBounds_toArray, List.set_cons_zero, List.set_cons_succ]
                refine wpAnyH_take (i := 15) (oi := { dst := some 46, op := Go.Op.binOp Go.BinOp.rem 3 (Go.Operand.tmp 45) (Go.Operand.const (Go.Value.int Go.IntKind.i64 2)) 3, type := 3, pos := "laws.go:551", after := #[{ on := 14, ground := Go.Ground.data }], guard := none }) (v := ?_) rfl (by kernel_rfl) (by kernel_rfl) (by kernel_rfl) (fun _ _ _ h => h) (Or.inl ⟨by rfl, ?_⟩) hHeld ?_
                rotate_left
                · intro w hSw
                  try dsimp only at hSw
                  go_simp
                  try (with_reducible rfl)
                simp only [Act.put, List.setIfInBounds_toArray, List.set_cons_zero, List.set_cons_succ]
                refine wpAnyH_ready (rs := [10]) (by kernel_rfl) (by decide) ?_
                refine AllReadyH.cons (o := { dst := some 41, op := Go.Op.convert 22 9 (Go.Operand.tmp 40), type := 9, pos := "laws.go:551", after := #[{ on := 9, ground := Go.Ground.data }], guard := none }) rfl (fun K hK => ?_) AllReadyH.nil
                go_simp
                refine hK.out _ _ (trivial) (fun hHeld => ?_)
                clear hK K
                try simp only [Act.put, List.setIfInBounds_toArray, List.set_cons_zero, List.set_cons_succ]
                refine wpAnyH_take (i := 16) (oi := { dst := some 47, op := Go.Op.slice 9 (Go.Operand.tmp 41) none (some (Go.Operand.tmp 46)) none, type := 9, pos := "laws.go:551", after := #[{ on := 10, ground := Go.Ground.data }, { on := 15, ground := Go.Ground.data }], guard := none }) (v := ?_) rfl (by kernel_rfl) (by kernel_rfl) (by kernel_rfl) (fun _ _ _ h => h) (Or.inl ⟨by rfl, ?_⟩) hHeld ?_
                rotate_left
                · intro w hSw
                  try dsimp only at hSw
                  go_simp
                  try (with_reducible rfl)
                simp only [Act.put, List.setIfInBounds_toArray, List.set_cons_zero, List.set_cons_succ]
                refine wpAnyH_take (i := 17) (oi := { dst := some 48, op := Go.Op.binOp Go.BinOp.add 9 (Go.Operand.tmp 35) (Go.Operand.tmp 47) 9, type := 9, pos := "laws.go:551", after := #[{ on := 4, ground := Go.Ground.data }, { on := 16, ground := Go.Ground.data }], guard := none }) (v := ?_) rfl (by kernel_rfl) (by kernel_rfl) (by kernel_rfl) (fun _ _ _ h => h) (Or.inl ⟨by rfl, ?_⟩) hHeld ?_
                rotate_left
                · intro w hSw
                  try dsimp only at hSw
                  go_simp
                  try (with_reducible rfl)
                simp only [Act.put, List.setIfInBounds_toArray, List.set_cons_zero, List.set_cons_succ]
                refine wpAnyH_take (i := 18) (oi := { dst := some 6, op := Go.Op.assign (Go.Operand.tmp 48), type := 9, pos := "laws.go:551", after := #[{ on := 17, ground := Go.Ground.data }, { on := 14, ground := Go.Ground.chain }, { on := 0, ground := Go.Ground.phase }, { on := 1, ground := Go.Ground.phase }, { on := 2, ground := Go.Ground.phase }, { on := 3, ground := Go.Ground.phase }, { on := 4, ground := Go.Ground.phase }, { on := 5, ground := Go.Ground.phase }, { on := 6, ground := Go.Ground.phase }, { on := 7, ground := Go.Ground.phase }, { on := 8, ground := Go.Ground.phase }, { on := 9, ground := Go.Ground.phase }, { on := 10, ground := Go.Ground.phase }, { on := 11, ground := Go.Ground.phase }, { on := 12, ground := Go.Ground.phase }, { on := 13, ground := Go.Ground.phase }, { on := 14, ground := Go.Ground.phase }, { on := 15, ground := Go.Ground.phase }, { on := 16, ground := Go.Ground.phase }, { on := 17, ground := Go.Ground.phase }], guard := none }) (v := ?_) rfl (by kernel_rfl) (by kernel_rfl) (by kernel_rfl) (fun _ _ _ h => h) (Or.inl ⟨by rfl, ?_⟩) hHeld ?_
                rotate_left
                · intro w hSw
                  try dsimp only at hSw
                  go_simp
                  try (with_reducible rfl)
                simp only [Act.put, List.setIfInBounds_toArray, List.set_cons_zero, List.set_cons_succ]
                refine wpAnyH_done (by kernel_rfl) ?_ _
                go_wp2_with fail
                go_meet
                have HBg : Below wd.heap.size wd (wf.alloc (.cells #[.int .u8 a1] 5)) := HBf.out.alloc HBf.out.size _
                exact ⟨_, rfl, HTS, own_keep HOd.out HBg, HBd.out.trans (HBg.mono HBd.out.size)⟩
            · go_simp
              refine hK.out _ _ (trivial) (fun hHeld => ?_)
              clear hK K
              try simp only [Act.put, List.setIfInBounds_toArray, List.set_cons_zero, List.set_cons_succ]
              refine wpAnyH_ready (rs := [4, 14]) (by kernel_rfl) (by decide) ?_
              refine AllReadyH.cons (o := { dst := some 35, op := Go.Op.convert 22 9 (Go.Operand.tmp 34), type := 9, pos := "laws.go:551", after := #[{ on := 3, ground := Go.Ground.data }], guard := none }) rfl (fun K hK => ?_) (AllReadyH.cons (o := { dst := some 45, op := Go.Op.call { callee := Go.Callee.value (Go.Operand.func 8), args := #[Go.Operand.tmp 42, Go.Operand.tmp 44], argTypes := #[22, 3] }, type := 3, pos := "laws.go:551", after := #[{ on := 11, ground := Go.Ground.data }, { on := 13, ground := Go.Ground.data }, { on := 7, ground := Go.Ground.chain }], guard := none }) rfl (fun K hK => ?_) AllReadyH.nil)
              · go_simp
                refine hK.out _ _ (trivial) (fun hHeld => ?_)
                clear hK K
                try simp only [Act.put, List.setIfInBounds_toArray, List.set_cons_zero, List.set_cons_succ]
                refine wpAnyH_ready (rs := [14]) (by kernel_rfl) (by decide) ?_
                refine AllReadyH.cons (o := { dst := some 45, op := Go.Op.call { callee := Go.Callee.value (Go.Operand.func 8), args := #[Go.Operand.tmp 42, Go.Operand.tmp 44], argTypes := #[22, 3] }, type := 3, pos := "laws.go:551", after := #[{ on := 11, ground := Go.Ground.data }, { on := 13, ground := Go.Ground.data }, { on := 7, ground := Go.Ground.chain }], guard := none }) rfl (fun K hK => ?_) AllReadyH.nil
                go_simp
                refine (kA2 _ HCg.out).mono ?_
                rintro e wx ⟨rfl, hwx⟩
                rw [hwx]
                clear hwx wx
                refine hK.out _ _ (trivial) (fun hHeld => ?_)
                clear hK K
                try simp only [Act.put, List.setIfInBounds_toArray, List.set_cons_zero, List.set_cons_succ]
                refine wpAnyH_take (i := 15) (oi := { dst := some 46, op := Go.Op.binOp Go.BinOp.rem 3 (Go.Operand.tmp 45) (Go.Operand.const (Go.Value.int Go.IntKind.i64 2)) 3, type := 3, pos := "laws.go:551", after := #[{ on := 14, ground := Go.Ground.data }], guard := none }) (v := ?_) rfl (by kernel_rfl) (by kernel_rfl) (by kernel_rfl) (fun _ _ _ h => h) (Or.inl ⟨by rfl, ?_⟩) hHeld ?_
                rotate_left
                · intro w hSw
                  try dsimp only at hSw
                  go_simp
                  try (with_reducible rfl)
                simp only [Act.put, List.setIfInBounds_toArray, List.set_cons_zero, List.set_cons_succ]
                refine wpAnyH_take (i := 16) (oi := { dst := some 47, op := Go.Op.slice 9 (Go.Operand.tmp 41) none (some (Go.Operand.tmp 46)) none, type := 9, pos := "laws.go:551", after := #[{ on := 10, ground := Go.Ground.data }, { on := 15, ground := Go.Ground.data }], guard := none }) (v := ?_) rfl (by kernel_rfl) (by kernel_rfl) (by kernel_rfl) (fun _ _ _ h => h) (Or.inl ⟨by rfl, ?_⟩) hHeld ?_
                rotate_left
                · intro w hSw
                  try dsimp only at hSw
                  go_simp
                  try (with_reducible rfl)
                simp only [Act.put, List.setIfInBounds_toArray, List.set_cons_zero, List.set_cons_succ]
                refine wpAnyH_take (i := 17) (oi := { dst := some 48, op := Go.Op.binOp Go.BinOp.add 9 (Go.Operand.tmp 35) (Go.Operand.tmp 47) 9, type := 9, pos := "laws.go:551", after := #[{ on := 4, ground := Go.Ground.data }, { on := 16, ground := Go.Ground.data }], guard := none }) (v := ?_) rfl (by kernel_rfl) (by kernel_rfl) (by kernel_rfl) (fun _ _ _ h => h) (Or.inl ⟨by rfl, ?_⟩) hHeld ?_
                rotate_left
                · intro w hSw
                  try dsimp only at hSw
                  go_simp
                  try (with_reducible rfl)
                simp only [Act.put, List.setIfInBounds_toArray, List.set_cons_zero, List.set_cons_succ]
                refine wpAnyH_take (i := 18) (oi := { dst := some 6, op := Go.Op.assign (Go.Operand.tmp 48), type := 9, pos := "laws.go:551", after := #[{ on := 17, ground := Go.Ground.data }, { on := 14, ground := Go.Ground.chain }, { on := 0, ground := Go.Ground.phase }, { on := 1, ground := Go.Ground.phase }, { on := 2, ground := Go.Ground.phase }, { on := 3, ground := Go.Ground.phase }, { on := 4, ground := Go.Ground.phase }, { on := 5, ground := Go.Ground.phase }, { on := 6, ground := Go.Ground.phase }, { on := 7, ground := Go.Ground.phase }, { on := 8, ground := Go.Ground.phase }, { on := 9, ground := Go.Ground.phase }, { on := 10, ground := Go.Ground.phase }, { on := 11, ground := Go.Ground.phase }, { on := 12, ground := Go.Ground.phase }, { on := 13, ground := Go.Ground.phase }, { on := 14, ground := Go.Ground.phase }, { on := 15, ground := Go.Ground.phase }, { on := 16, ground := Go.Ground.phase }, { on := 17, ground := Go.Ground.phase }], guard := none }) (v := ?_) rfl (by kernel_rfl) (by kernel_rfl) (by kernel_rfl) (fun _ _ _ h => h) (Or.inl ⟨by rfl, ?_⟩) hHeld ?_
                rotate_left
                · intro w hSw
                  try dsimp only at hSw
                  go_simp
                  try (with_reducible rfl)
                simp only [Act.put, List.setIfInBounds_toArray, List.set_cons_zero, List.set_cons_succ]
                refine wpAnyH_done (by kernel_rfl) ?_ _
                go_wp2_with fail
                go_meet
                have HBg : Below wd.heap.size wd (wf.alloc (.cells #[.int .u8 a1] 5)) := HBf.out.alloc HBf.out.size _
                exact ⟨_, rfl, HTS, own_keep HOd.out HBg, HBd.out.trans (HBg.mono HBd.out.size)⟩
              · go_simp
                refine (kA2 _ HCg.out).mono ?_
                rintro e wx ⟨rfl, hwx⟩
                rw [hwx]
                clear hwx wx
                refine hK.out _ _ (trivial) (fun hHeld => ?_)
                clear hK K
                try simp only [Act.put, List.setIfInBounds_toArray, List.set_cons_zero, List.set_cons_succ]
                refine wpAnyH_take (i := 15) (oi := { dst := some 46, op := Go.Op.binOp Go.BinOp.rem 3 (Go.Operand.tmp 45) (Go.Operand.const (Go.Value.int Go.IntKind.i64 2)) 3, type := 3, pos := "laws.go:551", after := #[{ on := 14, ground := Go.Ground.data }], guard := none }) (v := ?_) rfl (by kernel_rfl) (by kernel_rfl) (by kernel_rfl) (fun _ _ _ h => h) (Or.inl ⟨by rfl, ?_⟩) hHeld ?_
                rotate_left
                · intro w hSw
                  try dsimp only at hSw
                  go_simp
                  try (with_reducible rfl)
                simp only [Act.put, List.setIfInBounds_toArray, List.set_cons_zero, List.set_cons_succ]
                refine wpAnyH_take (i := 16) (oi := { dst := some 47, op := Go.Op.slice 9 (Go.Operand.tmp 41) none (some (Go.Operand.tmp 46)) none, type := 9, pos := "laws.go:551", after := #[{ on := 10, ground := Go.Ground.data }, { on := 15, ground := Go.Ground.data }], guard := none }) (v := ?_) rfl (by kernel_rfl) (by kernel_rfl) (by kernel_rfl) (fun _ _ _ h => h) (Or.inl ⟨by rfl, ?_⟩) hHeld ?_
                rotate_left
                · intro w hSw
                  try dsimp only at hSw
                  go_simp
                  try (with_reducible rfl)
                simp only [Act.put, List.setIfInBounds_toArray, List.set_cons_zero, List.set_cons_succ]
                refine wpAnyH_ready (rs := [4]) (by kernel_rfl) (by decide) ?_
                refine AllReadyH.cons (o := { dst := some 35, op := Go.Op.convert 22 9 (Go.Operand.tmp 34), type := 9, pos := "laws.go:551", after := #[{ on := 3, ground := Go.Ground.data }], guard := none }) rfl (fun K hK => ?_) AllReadyH.nil
                go_simp
                refine hK.out _ _ (trivial) (fun hHeld => ?_)
                clear hK K
                try simp only [Act.put, List.setIfInBounds_toArray, List.set_cons_zero, List.set_cons_succ]
                refine wpAnyH_take (i := 17) (oi := { dst := some 48, op := Go.Op.binOp Go.BinOp.add 9 (Go.Operand.tmp 35) (Go.Operand.tmp 47) 9, type := 9, pos := "laws.go:551", after := #[{ on := 4, ground := Go.Ground.data }, { on := 16, ground := Go.Ground.data }], guard := none }) (v := ?_) rfl (by kernel_rfl) (by kernel_rfl) (by kernel_rfl) (fun _ _ _ h => h) (Or.inl ⟨by rfl, ?_⟩) hHeld ?_
                rotate_left
                · intro w hSw
                  try dsimp only at hSw
                  go_simp
                  try (with_reducible rfl)
                simp only [Act.put, List.setIfInBounds_toArray, List.set_cons_zero, List.set_cons_succ]
                refine wpAnyH_take (i := 18) (oi := { dst := some 6, op := Go.Op.assign (Go.Operand.tmp 48), type := 9, pos := "laws.go:551", after := #[{ on := 17, ground := Go.Ground.data }, { on := 14, ground := Go.Ground.chain }, { on := 0, ground := Go.Ground.phase }, { on := 1, ground := Go.Ground.phase }, { on := 2, ground := Go.Ground.phase }, { on := 3, ground := Go.Ground.phase }, { on := 4, ground := Go.Ground.phase }, { on := 5, ground := Go.Ground.phase }, { on := 6, ground := Go.Ground.phase }, { on := 7, ground := Go.Ground.phase }, { on := 8, ground := Go.Ground.phase }, { on := 9, ground := Go.Ground.phase }, { on := 10, ground := Go.Ground.phase }, { on := 11, ground := Go.Ground.phase }, { on := 12, ground := Go.Ground.phase }, { on := 13, ground := Go.Ground.phase }, { on := 14, ground := Go.Ground.phase }, { on := 15, ground := Go.Ground.phase }, { on := 16, ground := Go.Ground.phase }, { on := 17, ground := Go.Ground.phase }], guard := none }) (v := ?_) rfl (by kernel_rfl) (by kernel_rfl) (by kernel_rfl) (fun _ _ _ h => h) (Or.inl ⟨by rfl, ?_⟩) hHeld ?_
                rotate_left
                · intro w hSw
                  try dsimp only at hSw
                  go_simp
                  try (with_reducible rfl)
                simp only [Act.put, List.setIfInBounds_toArray, List.set_cons_zero, List.set_cons_succ]
                refine wpAnyH_done (by kernel_rfl) ?_ _
                go_wp2_with fail
                go_meet
                have HBg : Below wd.heap.size wd (wf.alloc (.cells #[.int .u8 a1] 5)) := HBf.out.alloc HBf.out.size _
                exact ⟨_, rfl, HTS, own_keep HOd.out HBg, HBd.out.trans (HBg.mono HBd.out.size)⟩
            · go_simp
              refine (kA2 _ HCg.out).mono ?_
              rintro e wx ⟨rfl, hwx⟩
              rw [hwx]
              clear hwx wx
              refine hK.out _ _ (trivial) (fun hHeld => ?_)
              clear hK K
              try simp only [Act.put, List.setIfInBounds_toArray, List.set_cons_zero, List.set_cons_succ]
              refine wpAnyH_take (i := 15) (oi := { dst := some 46, op := Go.Op.binOp Go.BinOp.rem 3 (Go.Operand.tmp 45) (Go.Operand.const (Go.Value.int Go.IntKind.i64 2)) 3, type := 3, pos := "laws.go:551", after := #[{ on := 14, ground := Go.Ground.data }], guard := none }) (v := ?_) rfl (by kernel_rfl) (by kernel_rfl) (by kernel_rfl) (fun _ _ _ h => h) (Or.inl ⟨by rfl, ?_⟩) hHeld ?_
              rotate_left
              · intro w hSw
                try dsimp only at hSw
                go_simp
                try (with_reducible rfl)
              simp only [Act.put, List.setIfInBounds_toArray, List.set_cons_zero, List.set_cons_succ]
              refine wpAnyH_ready (rs := [4, 10]) (by kernel_rfl) (by decide) ?_
              refine AllReadyH.cons (o := { dst := some 35, op := Go.Op.convert 22 9 (Go.Operand.tmp 34), type := 9, pos := "laws.go:551", after := #[{ on := 3, ground := Go.Ground.data }], guard := none }) rfl (fun K hK => ?_) (AllReadyH.cons (o := { dst := some 41, op := Go.Op.convert 22 9 (Go.Operand.tmp 40), type := 9, pos := "laws.go:551", after := #[{ on := 9, ground := Go.Ground.data }], guard := none }) rfl (fun K hK => ?_) AllReadyH.nil)
              · go_simp
                refine hK.out _ _ (trivial) (fun hHeld => ?_)
                clear hK K
                try simp only [Act.put, List.setIfInBounds_toArray, List.set_cons_zero, List.set_cons_succ]
                refine wpAnyH_ready (rs := [10]) (by kernel_rfl) (by decide) ?_
                refine AllReadyH.cons (o := { dst := some 41, op := Go.Op.convert 22 9 (Go.Operand.tmp 40), type := 9, pos := "laws.go:551", after := #[{ on := 9, ground := Go.Ground.data }], guard := none }) rfl (fun K hK => ?_) AllReadyH.nil
                go_simp
                refine hK.out _ _ (trivial) (fun hHeld => ?_)
                clear hK K
                try simp only [Act.put, List.setIfInBounds_toArray, List.set_cons_zero, List.set_cons_succ]
                refine wpAnyH_take (i := 16) (oi := { dst := some 47, op := Go.Op.slice 9 (Go.Operand.tmp 41) none (some (Go.Operand.tmp 46)) none, type := 9, pos := "laws.go:551", after := #[{ on := 10, ground := Go.Ground.data }, { on := 15, ground := Go.Ground.data }], guard := none }) (v := ?_) rfl (by kernel_rfl) (by kernel_rfl) (by kernel_rfl) (fun _ _ _ h => h) (Or.inl ⟨by rfl, ?_⟩) hHeld ?_
                rotate_left
                · intro w hSw
                  try dsimp only at hSw
                  go_simp
                  try (with_reducible rfl)
                simp only [Act.put, List.setIfInBounds_toArray, List.set_cons_zero, List.set_cons_succ]
                refine wpAnyH_take (i := 17) (oi := { dst := some 48, op := Go.Op.binOp Go.BinOp.add 9 (Go.Operand.tmp 35) (Go.Operand.tmp 47) 9, type := 9, pos := "laws.go:551", after := #[{ on := 4, ground := Go.Ground.data }, { on := 16, ground := Go.Ground.data }], guard := none }) (v := ?_) rfl (by kernel_rfl) (by kernel_rfl) (by kernel_rfl) (fun _ _ _ h => h) (Or.inl ⟨by rfl, ?_⟩) hHeld ?_
                rotate_left
                · intro w hSw
                  try dsimp only at hSw
                  go_simp
                  try (with_reducible rfl)
                simp only [Act.put, List.setIfInBounds_toArray, List.set_cons_zero, List.set_cons_succ]
                refine wpAnyH_take (i := 18) (oi := { dst := some 6, op := Go.Op.assign (Go.Operand.tmp 48), type := 9, pos := "laws.go:551", after := #[{ on := 17, ground := Go.Ground.data }, { on := 14, ground := Go.Ground.chain }, { on := 0, ground := Go.Ground.phase }, { on := 1, ground := Go.Ground.phase }, { on := 2, ground := Go.Ground.phase }, { on := 3, ground := Go.Ground.phase }, { on := 4, ground := Go.Ground.phase }, { on := 5, ground := Go.Ground.phase }, { on := 6, ground := Go.Ground.phase }, { on := 7, ground := Go.Ground.phase }, { on := 8, ground := Go.Ground.phase }, { on := 9, ground := Go.Ground.phase }, { on := 10, ground := Go.Ground.phase }, { on := 11, ground := Go.Ground.phase }, { on := 12, ground := Go.Ground.phase }, { on := 13, ground := Go.Ground.phase }, { on := 14, ground := Go.Ground.phase }, { on := 15, ground := Go.Ground.phase }, { on := 16, ground := Go.Ground.phase }, { on := 17, ground := Go.Ground.phase }], guard := none }) (v := ?_) rfl (by kernel_rfl) (by kernel_rfl) (by kernel_rfl) (fun _ _ _ h => h) (Or.inl ⟨by rfl, ?_⟩) hHeld ?_
                rotate_left
                · intro w hSw
                  try dsimp only at hSw
                  go_simp
                  try (with_reducible rfl)
                simp only [Act.put, List.setIfInBounds_toArray, List.set_cons_zero, List.set_cons_succ]
                refine wpAnyH_done (by kernel_rfl) ?_ _
                go_wp2_with fail
                go_meet
                have HBg : Below wd.heap.size wd (wf.alloc (.cells #[.int .u8 a1] 5)) := HBf.out.alloc HBf.out.size _
                exact ⟨_, rfl, HTS, own_keep HOd.out HBg, HBd.out.trans (HBg.mono HBd.out.size)⟩
              · go_simp
                refine hK.out _ _ (trivial) (fun hHeld => ?_)
                clear hK K
                try simp only [Act.put, List.setIfInBounds_toArray, List.set_cons_zero, List.set_cons_succ]
                refine wpAnyH_take (i := 16) (oi := { dst := some 47, op := Go.Op.slice 9 (Go.Operand.tmp 41) none (some (Go.Operand.tmp 46)) none, type := 9, pos := "laws.go:551", after := #[{ on := 10, ground := Go.Ground.data }, { on := 15, ground := Go.Ground.data }], guard := none }) (v := ?_) rfl (by kernel_rfl) (by kernel_rfl) (by kernel_rfl) (fun _ _ _ h => h) (Or.inl ⟨by rfl, ?_⟩) hHeld ?_
                rotate_left
                · intro w hSw
                  try dsimp only at hSw
                  go_simp
                  try (with_reducible rfl)
                simp only [Act.put, List.setIfInBounds_toArray, List.set_cons_zero, List.set_cons_succ]
                refine wpAnyH_ready (rs := [4]) (by kernel_rfl) (by decide) ?_
                refine AllReadyH.cons (o := { dst := some 35, op := Go.Op.convert 22 9 (Go.Operand.tmp 34), type := 9, pos := "laws.go:551", after := #[{ on := 3, ground := Go.Ground.data }], guard := none }) rfl (fun K hK => ?_) AllReadyH.nil
                go_simp
                refine hK.out _ _ (trivial) (fun hHeld => ?_)
                clear hK K
                try simp only [Act.put, List.setIfInBounds_toArray, List.set_cons_zero, List.set_cons_succ]
                refine wpAnyH_take (i := 17) (oi := { dst := some 48, op := Go.Op.binOp Go.BinOp.add 9 (Go.Operand.tmp 35) (Go.Operand.tmp 47) 9, type := 9, pos := "laws.go:551", after := #[{ on := 4, ground := Go.Ground.data }, { on := 16, ground := Go.Ground.data }], guard := none }) (v := ?_) rfl (by kernel_rfl) (by kernel_rfl) (by kernel_rfl) (fun _ _ _ h => h) (Or.inl ⟨by rfl, ?_⟩) hHeld ?_
                rotate_left
                · intro w hSw
                  try dsimp only at hSw
                  go_simp
                  try (with_reducible rfl)
                simp only [Act.put, List.setIfInBounds_toArray, List.set_cons_zero, List.set_cons_succ]
                refine wpAnyH_take (i := 18) (oi := { dst := some 6, op := Go.Op.assign (Go.Operand.tmp 48), type := 9, pos := "laws.go:551", after := #[{ on := 17, ground := Go.Ground.data }, { on := 14, ground := Go.Ground.chain }, { on := 0, ground := Go.Ground.phase }, { on := 1, ground := Go.Ground.phase }, { on := 2, ground := Go.Ground.phase }, { on := 3, ground := Go.Ground.phase }, { on := 4, ground := Go.Ground.phase }, { on := 5, ground := Go.Ground.phase }, { on := 6, ground := Go.Ground.phase }, { on := 7, ground := Go.Ground.phase }, { on := 8, ground := Go.Ground.phase }, { on := 9, ground := Go.Ground.phase }, { on := 10, ground := Go.Ground.phase }, { on := 11, ground := Go.Ground.phase }, { on := 12, ground := Go.Ground.phase }, { on := 13, ground := Go.Ground.phase }, { on := 14, ground := Go.Ground.phase }, { on := 15, ground := Go.Ground.phase }, { on := 16, ground := Go.Ground.phase }, { on := 17, ground := Go.Ground.phase }], guard := none }) (v := ?_) rfl (by kernel_rfl) (by kernel_rfl) (by kernel_rfl) (fun _ _ _ h => h) (Or.inl ⟨by rfl, ?_⟩) hHeld ?_
                rotate_left
                · intro w hSw
                  try dsimp only at hSw
                  go_simp
                  try (with_reducible rfl)
                simp only [Act.put, List.setIfInBounds_toArray, List.set_cons_zero, List.set_cons_succ]
                refine wpAnyH_done (by kernel_rfl) ?_ _
                go_wp2_with fail
                go_meet
                have HBg : Below wd.heap.size wd (wf.alloc (.cells #[.int .u8 a1] 5)) := HBf.out.alloc HBf.out.size _
                exact ⟨_, rfl, HTS, own_keep HOd.out HBg, HBd.out.trans (HBg.mono HBd.out.size)⟩
          · go_simp
            refine (kA2 _ HCf.out).mono ?_
            rintro e wx ⟨rfl, hwx⟩
            rw [hwx]
            clear hwx wx
            refine hK.out _ _ (trivial) (fun hHeld => ?_)
            clear hK K
            try simp only [Act.put, List.setIfInBounds_toArray, List.set_cons_zero, List.set_cons_succ]
            refine wpAnyH_take (i := 15) (oi := { dst := some 46, op := Go.Op.binOp Go.BinOp.rem 3 (Go.Operand.tmp 45) (Go.Operand.const (Go.Value.int Go.IntKind.i64 2)) 3, type := 3, pos := "laws.go:551", after := #[{ on := 14, ground := Go.Ground.data }], guard := none }) (v := ?_) rfl (by kernel_rfl) (by kernel_rfl) (by kernel_rfl) (fun _ _ _ h => h) (Or.inl ⟨by rfl, ?_⟩) hHeld ?_
            rotate_left
            · intro w hSw
              try dsimp only at hSw
              go_simp
              try (with_reducible rfl)
            simp only [Act.put, List.setIfInBounds_toArray, List.set_cons_zero, List.set_cons_succ]
            refine wpAnyH_ready (rs := [4, 9]) (by kernel_rfl) (by decide) ?_
            refine AllReadyH.cons (o := { dst := some 35, op := Go.Op.convert 22 9 (Go.Operand.tmp 34), type := 9, pos := "laws.go:551", after := #[{ on := 3, ground := Go.Ground.data }], guard := none }) rfl (fun K hK => ?_) (AllReadyH.cons (o := { dst := some 40, op := Go.Op.buildSlice 22 1 #[(0, Go.Operand.tmp 39)], type := 22, pos := "laws.go:551", after := #[{ on := 8, ground := Go.Ground.data }], guard := none }) rfl (fun K hK => ?_) AllReadyH.nil)
            · go_simp
              refine hK.out _ _ (trivial) (fun hHeld => ?_)
              clear hK K
              try simp only [Act.put, List.setIfInBounds_toArray, List.set_cons_zero, List.set_cons_succ]
              refine wpAnyH_ready (rs := [9]) (by kernel_rfl) (by decide) ?_
              refine AllReadyH.cons (o := { dst := some 40, op := Go.Op.buildSlice 22 1 #[(0, Go.Operand.tmp 39)], type := 22, pos := "laws.go:551", after := #[{ on := 8, ground := Go.Ground.data }], guard := none }) rfl (fun K hK => ?_) AllReadyH.nil
              go_simp
              refine hK.out _ _ (trivial) (fun hHeld => ?_)
              clear hK K
              try simp only [Act.put, List.setIfInBounds_toArray, List.set_cons_zero, List.set_cons_succ]
              refine wpAnyH_ready (rs := [10]) (by kernel_rfl) (by decide) ?_
              refine AllReadyH.cons (o := { dst := some 41, op := Go.Op.convert 22 9 (Go.Operand.tmp 40), type := 9, pos := "laws.go:551", after := #[{ on := 9, ground := Go.Ground.data }], guard := none }) rfl (fun K hK => ?_) AllReadyH.nil
              go_simp
              refine hK.out _ _ (trivial) (fun hHeld => ?_)
              clear hK K
              try simp only [Act.put, List.setIfInBounds_toArray, List.set_cons_zero, List.set_cons_succ]
              refine wpAnyH_take (i := 16) (oi := { dst := some 47, op := Go.Op.slice 9 (Go.Operand.tmp 41) none (some (Go.Operand.tmp 46)) none, type := 9, pos := "laws.go:551", after := #[{ on := 10, ground := Go.Ground.data }, { on := 15, ground := Go.Ground.data }], guard := none }) (v := ?_) rfl (by kernel_rfl) (by kernel_rfl) (by kernel_rfl) (fun _ _ _ h => h) (Or.inl ⟨by rfl, ?_⟩) hHeld ?_
              rotate_left
              · intro w hSw
                try dsimp only at hSw
                go_simp
                try (with_reducible rfl)
              simp only [Act.put, List.setIfInBounds_toArray, List.set_cons_zero, List.set_cons_succ]
              refine wpAnyH_take (i := 17) (oi := { dst := some 48, op := Go.Op.binOp Go.BinOp.add 9 (Go.Operand.tmp 35) (Go.Operand.tmp 47) 9, type := 9, pos := "laws.go:551", after := #[{ on := 4, ground := Go.Ground.data }, { on := 16, ground := Go.Ground.data }], guard := none }) (v := ?_) rfl (by kernel_rfl) (by kernel_rfl) (by kernel_rfl) (fun _ _ _ h => h) (Or.inl ⟨by rfl, ?_⟩) hHeld ?_
              rotate_left
              · intro w hSw
                try dsimp only at hSw
                go_simp
                try (with_reducible rfl)
              simp only [Act.put, List.setIfInBounds_toArray, List.set_cons_zero, List.set_cons_succ]
              refine wpAnyH_take (i := 18) (oi := { dst := some 6, op := Go.Op.assign (Go.Operand.tmp 48), type := 9, pos := "laws.go:551", after := #[{ on := 17, ground := Go.Ground.data }, { on := 14, ground := Go.Ground.chain }, { on := 0, ground := Go.Ground.phase }, { on := 1, ground := Go.Ground.phase }, { on := 2, ground := Go.Ground.phase }, { on := 3, ground := Go.Ground.phase }, { on := 4, ground := Go.Ground.phase }, { on := 5, ground := Go.Ground.phase }, { on := 6, ground := Go.Ground.phase }, { on := 7, ground := Go.Ground.phase }, { on := 8, ground := Go.Ground.phase }, { on := 9, ground := Go.Ground.phase }, { on := 10, ground := Go.Ground.phase }, { on := 11, ground := Go.Ground.phase }, { on := 12, ground := Go.Ground.phase }, { on := 13, ground := Go.Ground.phase }, { on := 14, ground := Go.Ground.phase }, { on := 15, ground := Go.Ground.phase }, { on := 16, ground := Go.Ground.phase }, { on := 17, ground := Go.Ground.phase }], guard := none }) (v := ?_) rfl (by kernel_rfl) (by kernel_rfl) (by kernel_rfl) (fun _ _ _ h => h) (Or.inl ⟨by rfl, ?_⟩) hHeld ?_
              rotate_left
              · intro w hSw
                try dsimp only at hSw
                go_simp
                try (with_reducible rfl)
              simp only [Act.put, List.setIfInBounds_toArray, List.set_cons_zero, List.set_cons_succ]
              refine wpAnyH_done (by kernel_rfl) ?_ _
              go_wp2_with fail
              go_meet
              have HBg : Below wd.heap.size wd (wf.alloc (.cells #[.int .u8 a1] 5)) := HBf.out.alloc HBf.out.size _
              exact ⟨_, rfl, HTS, own_keep HOd.out HBg, HBd.out.trans (HBg.mono HBd.out.size)⟩
            · go_simp
              refine hK.out _ _ (trivial) (fun hHeld => ?_)
              clear hK K
              try simp only [Act.put, List.setIfInBounds_toArray, List.set_cons_zero, List.set_cons_succ]
              refine wpAnyH_ready (rs := [4, 10]) (by kernel_rfl) (by decide) ?_
              refine AllReadyH.cons (o := { dst := some 35, op := Go.Op.convert 22 9 (Go.Operand.tmp 34), type := 9, pos := "laws.go:551", after := #[{ on := 3, ground := Go.Ground.data }], guard := none }) rfl (fun K hK => ?_) (AllReadyH.cons (o := { dst := some 41, op := Go.Op.convert 22 9 (Go.Operand.tmp 40), type := 9, pos := "laws.go:551", after := #[{ on := 9, ground := Go.Ground.data }], guard := none }) rfl (fun K hK => ?_) AllReadyH.nil)
              · go_simp
                refine hK.out _ _ (trivial) (fun hHeld => ?_)
                clear hK K
                try simp only [Act.put, List.setIfInBounds_toArray, List.set_cons_zero, List.set_cons_succ]
                refine wpAnyH_ready (rs := [10]) (by kernel_rfl) (by decide) ?_
                refine AllReadyH.cons (o := { dst := some 41, op := Go.Op.convert 22 9 (Go.Operand.tmp 40), type := 9, pos := "laws.go:551", after := #[{ on := 9, ground := Go.Ground.data }], guard := none }) rfl (fun K hK => ?_) AllReadyH.nil
                go_simp
                refine hK.out _ _ (trivial) (fun hHeld => ?_)
                clear hK K
                try simp only [Act.put, List.setIfInBounds_toArray, List.set_cons_zero, List.set_cons_succ]
                refine wpAnyH_take (i := 16) (oi := { dst := some 47, op := Go.Op.slice 9 (Go.Operand.tmp 41) none (some (Go.Operand.tmp 46)) none, type := 9, pos := "laws.go:551", after := #[{ on := 10, ground := Go.Ground.data }, { on := 15, ground := Go.Ground.data }], guard := none }) (v := ?_) rfl (by kernel_rfl) (by kernel_rfl) (by kernel_rfl) (fun _ _ _ h => h) (Or.inl ⟨by rfl, ?_⟩) hHeld ?_
                rotate_left
                · intro w hSw
                  try dsimp only at hSw
                  go_simp
                  try (with_reducible rfl)
                simp only [Act.put, List.setIfInBounds_toArray, List.set_cons_zero, List.set_cons_succ]
                refine wpAnyH_take (i := 17) (oi := { dst := some 48, op := Go.Op.binOp Go.BinOp.add 9 (Go.Operand.tmp 35) (Go.Operand.tmp 47) 9, type := 9, pos := "laws.go:551", after := #[{ on := 4, ground := Go.Ground.data }, { on := 16, ground := Go.Ground.data }], guard := none }) (v := ?_) rfl (by kernel_rfl) (by kernel_rfl) (by kernel_rfl) (fun _ _ _ h => h) (Or.inl ⟨by rfl, ?_⟩) hHeld ?_
                rotate_left
                · intro w hSw
                  try dsimp only at hSw
                  go_simp
                  try (with_reducible rfl)
                simp only [Act.put, List.setIfInBounds_toArray, List.set_cons_zero, List.set_cons_succ]
                refine wpAnyH_take (i := 18) (oi := { dst := some 6, op := Go.Op.assign (Go.Operand.tmp 48), type := 9, pos := "laws.go:551", after := #[{ on := 17, ground := Go.Ground.data }, { on := 14, ground := Go.Ground.chain }, { on := 0, ground := Go.Ground.phase }, { on := 1, ground := Go.Ground.phase }, { on := 2, ground := Go.Ground.phase }, { on := 3, ground := Go.Ground.phase }, { on := 4, ground := Go.Ground.phase }, { on := 5, ground := Go.Ground.phase }, { on := 6, ground := Go.Ground.phase }, { on := 7, ground := Go.Ground.phase }, { on := 8, ground := Go.Ground.phase }, { on := 9, ground := Go.Ground.phase }, { on := 10, ground := Go.Ground.phase }, { on := 11, ground := Go.Ground.phase }, { on := 12, ground := Go.Ground.phase }, { on := 13, ground := Go.Ground.phase }, { on := 14, ground := Go.Ground.phase }, { on := 15, ground := Go.Ground.phase }, { on := 16, ground := Go.Ground.phase }, { on := 17, ground := Go.Ground.phase }], guard := none }) (v := ?_) rfl (by kernel_rfl) (by kernel_rfl) (by kernel_rfl) (fun _ _ _ h => h) (Or.inl ⟨by rfl, ?_⟩) hHeld ?_
                rotate_left
                · intro w hSw
                  try dsimp only at hSw
                  go_simp
                  try (with_reducible rfl)
                simp only [Act.put, List.setIfInBounds_toArray, List.set_cons_zero, List.set_cons_succ]
                refine wpAnyH_done (by kernel_rfl) ?_ _
                go_wp2_with fail
                go_meet
                have HBg : Below wd.heap.size wd (wf.alloc (.cells #[.int .u8 a1] 5)) := HBf.out.alloc HBf.out.size _
                exact ⟨_, rfl, HTS, own_keep HOd.out HBg, HBd.out.trans (HBg.mono HBd.out.size)⟩
              · go_simp
                refine hK.out _ _ (trivial) (fun hHeld => ?_)
                clear hK K
                try simp only [Act.put, List.setIfInBounds_toArray, List.set_cons_zero, List.set_cons_succ]
                refine wpAnyH_take (i := 16) (oi := { dst := some 47, op := Go.Op.slice 9 (Go.Operand.tmp 41) none (some (Go.Operand.tmp 46)) none, type := 9, pos := "laws.go:551", after := #[{ on := 10, ground := Go.Ground.data }, { on := 15, ground := Go.Ground.data }], guard := none }) (v := ?_) rfl (by kernel_rfl) (by kernel_rfl) (by kernel_rfl) (fun _ _ _ h => h) (Or.inl ⟨by rfl, ?_⟩) hHeld ?_
                rotate_left
                · intro w hSw
                  try dsimp only at hSw
                  go_simp
                  try (with_reducible rfl)
                simp only [Act.put, List.setIfInBounds_toArray, List.set_cons_zero, List.set_cons_succ]
                refine wpAnyH_ready (rs := [4]) (by kernel_rfl) (by decide) ?_
                refine AllReadyH.cons (o := { dst := some 35, op := Go.Op.convert 22 9 (Go.Operand.tmp 34), type := 9, pos := "laws.go:551", after := #[{ on := 3, ground := Go.Ground.data }], guard := none }) rfl (fun K hK => ?_) AllReadyH.nil
                go_simp
                refine hK.out _ _ (trivial) (fun hHeld => ?_)
                clear hK K
                try simp only [Act.put, List.setIfInBounds_toArray, List.set_cons_zero, List.set_cons_succ]
                refine wpAnyH_take (i := 17) (oi := { dst := some 48, op := Go.Op.binOp Go.BinOp.add 9 (Go.Operand.tmp 35) (Go.Operand.tmp 47) 9, type := 9, pos := "laws.go:551", after := #[{ on := 4, ground := Go.Ground.data }, { on := 16, ground := Go.Ground.data }], guard := none }) (v := ?_) rfl (by kernel_rfl) (by kernel_rfl) (by kernel_rfl) (fun _ _ _ h => h) (Or.inl ⟨by rfl, ?_⟩) hHeld ?_
                rotate_left
                · intro w hSw
                  try dsimp only at hSw
                  go_simp
                  try (with_reducible rfl)
                simp only [Act.put, List.setIfInBounds_toArray, List.set_cons_zero, List.set_cons_succ]
                refine wpAnyH_take (i := 18) (oi := { dst := some 6, op := Go.Op.assign (Go.Operand.tmp 48), type := 9, pos := "laws.go:551", after := #[{ on := 17, ground := Go.Ground.data }, { on := 14, ground := Go.Ground.chain }, { on := 0, ground := Go.Ground.phase }, { on := 1, ground := Go.Ground.phase }, { on := 2, ground := Go.Ground.phase }, { on := 3, ground := Go.Ground.phase }, { on := 4, ground := Go.Ground.phase }, { on := 5, ground := Go.Ground.phase }, { on := 6, ground := Go.Ground.phase }, { on := 7, ground := Go.Ground.phase }, { on := 8, ground := Go.Ground.phase }, { on := 9, ground := Go.Ground.phase }, { on := 10, ground := Go.Ground.phase }, { on := 11, ground := Go.Ground.phase }, { on := 12, ground := Go.Ground.phase }, { on := 13, ground := Go.Ground.phase }, { on := 14, ground := Go.Ground.phase }, { on := 15, ground := Go.Ground.phase }, { on := 16, ground := Go.Ground.phase }, { on := 17, ground := Go.Ground.phase }], guard := none }) (v := ?_) rfl (by kernel_rfl) (by kernel_rfl) (by kernel_rfl) (fun _ _ _ h => h) (Or.inl ⟨by rfl, ?_⟩) hHeld ?_
                rotate_left
                · intro w hSw
                  try dsimp only at hSw
                  go_simp
                  try (with_reducible rfl)
                simp only [Act.put, List.setIfInBounds_toArray, List.set_cons_zero, List.set_cons_succ]
                refine wpAnyH_done (by kernel_rfl) ?_ _
                go_wp2_with fail
                go_meet
                have HBg : Below wd.heap.size wd (wf.alloc (.cells #[.int .u8 a1] 5)) := HBf.out.alloc HBf.out.size _
                exact ⟨_, rfl, HTS, own_keep HOd.out HBg, HBd.out.trans (HBg.mono HBd.out.size)⟩
      case rest =>
        obtain ⟨t, rfl, HTS, HO1, HB1⟩ := hcut
        have ht2 : t.size ≤ 2 := HTS.out
        have HTc : Hid (Tab wc) := HT.out.below HB1.out
        have kA := fun W hT => impl_add l t W (by omega) (by omega) hT
        rw [ad_yes (by omega) (by omega)] at kA
        simp only at kA
        obtain ⟨HP, _⟩ := put_behind HLC.out H2.out.fits (show t.size ≤ 60 by omega)
        have HP : Hid ((l ++ rcd t).data.toList = cat (ss ++ [t])) := HP
        have HT2 : Hid (Two (ss ++ [t])) := H2.out.snoc ht2
        have hsz : (l ++ rcd t).size ≤ 7 * (j + 1) := by rw [ByteArray.size_append, rcd_size (by omega)]; omega
        generalize l ++ rcd t = l2 at *
        go_wp2_with fail
        refine (kA _ HTc.out).mono ?_
        rintro e w1 ⟨rfl, b1⟩
        have HB2 : Hid (Below w0.heap.size w0 w1) := HB1.out.trans (b1.mono HB1.out.size)
        have HO2 : Hid (OwnT w1 w0.heap.size q ss) := own_keep HO1.out b1
        have HO3 : Hid (OwnT (w1.alloc (.cells #[.string t] 9)) w0.heap.size q ss) := World.ownsRow.alloc HO2.out _
        have HCc : Hid (_) := one_str w1 t
        have hsz2 : w0.heap.size ≤ w1.heap.size := HB2.out.size
        go_wp2_with (at_builtin; refine wpList_append_own _ rfl _ _ 24 rfl w0.heap.size 9 i0 (.string ⟨#[]⟩) 1 16 Tryd.underlying24 hi hz0 hz1 hz2 rfl (by decide) _ _ _ rfl HO3.out ⟨w1.heap.size, 0, none⟩ 1 1 ([t].map sv) rfl rfl HCc.out (sv_one [t]) (by unfold maxLen; omega) (by omega) (by simp; omega) ?_)
        intro v' w3 hown' hgrow _
        have HO4 : Hid (OwnT w3 w0.heap.size v' (ss ++ [t])) := by
          show OwnT _ _ _ _
          have h := hown'
          rw [← hsj] at h
          exact own_snt h
        have hb4 : Hid (Below w0.heap.size w0 w3) := (HB2.out.alloc hsz2 (.cells #[.string t] 9)).grown hgrow (by simp; omega) (fun j hj => (HO2.out.lt j hj).1)
        have hsl : (ss ++ [t]).length = j + 1 := by rw [List.length_append, hsj]; rfl
        clear hgrow hown' HCc HO1 HO2 HO3 hls
        go_wp2
        go_roundw
        case rel =>
          have R : ∃ (j' : Nat) (l : ByteArray) (q : Value) (ss : List ByteArray), j' ≤ 6 ∧ Value.int .i64 ((j : Int) + 1) = .int .i64 j' ∧ Value.string l2 = .string l ∧ q = v' ∧ ss.length = j' ∧ Hid (Two ss) ∧ Hid (l.data.toList = cat ss) ∧ l.size ≤ 7 * j' ∧ Hid (OwnT w3 w0.heap.size q ss) ∧ Hid (Below w0.heap.size w0 w3) := ⟨j + 1, l2, v', _, hlt, by go_num, rfl, rfl, hsl, HT2, HP, hsz, HO4, hb4⟩
          first | exact R | ((repeat apply Exists.intro); exact ⟨R, rfl⟩)
        case measure => simp [intOf]; omega
    · obtain rfl : j = 6 := by omega
      have hltz : ¬ ((6 : Nat) : Int) < 6 := by omega
      obtain ⟨a0, c0, rfl, hc0, hc1, F0⟩ := own_fr HO.out
      have hFits := H2.out.fits
      have hcl : (cat ss).length = l.size := by rw [← HLC.out, len_toList]
      have HHl : Hid (Holds l.data.toList ss) := by show Holds _ _; rw [HLC.out]; exact holds_cat hFits
      have HR0 : Hid (StrO wr a0 ss) := F0.o
      obtain ⟨b0, o0, rfl⟩ : ∃ b0 o0, a0 = some ⟨b0, o0, none⟩ := by 
        rcases F0 with h | ⟨b, o, h, _⟩
        · omega
        · exact ⟨b, o, h⟩
      clear HO F0
      have HCw : Hid (CodeAt wr wr.heap.size a L) := code_below HC.out HB.out
      have HTw : Hid (Tab wr) := HT.out.below HB.out
      have hl6 : ss.length ≤ 1073741824 := by omega
      have kS1 := fun W hT => impl_scan l ss W (by omega) hl6 HHl.out hT
      rw [hcl] at kS1
      have hs6 : ss.length ≤ 6 := by omega
      have hs0 : 0 < ss.length := by omega
      clear hcl hsj
      have kE1 := fun a a2 cap cap2 W hA hA2 => eq_texts a a2 cap cap2 ss W hA hA2 (by omega)
      have hnn : ((l.size : Int) != (l.size : Int)) = false := by simp
      have kA9 := fun W hC => at_any a L cap 9 W hC hlen (by omega)
      rw [show ((9 : Nat) : Int) = 9 from rfl] at kA9
      have ha9 := atV_bound L 9
      generalize atV L 9 = a9 at *
      obtain ⟨K, hK⟩ : ∃ K : Nat, a9.tmod ((l.size : Int) + 1) = (K : Int) := ⟨(a9 % ((l.size : Int) + 1)).toNat, by rw [Int.tmod_eq_emod_of_nonneg ha9.1]; have := Int.emod_nonneg a9 (show (l.size : Int) + 1 ≠ 0 by omega); omega⟩
      have hKl : (K : Int) ≤ (l.size : Int) := by have h1 := Int.emod_lt_of_pos a9 (show 0 < (l.size : Int) + 1 by omega); rw [Int.tmod_eq_emod_of_nonneg ha9.1] at hK; omega
      have hne1 : ¬ (l.size : Int) + 1 = 0 := by omega
      clear ha9
      obtain ⟨ms, hms⟩ := holds_ex _ (l.extract 0 K).data.toList (Nat.le_refl _)
      obtain ⟨e1, e2, e3, e4, e5⟩ := cut_log HLC.out hFits (by omega) hms
      have hPs : (l.extract 0 K).size ≤ 1099511627776 := by rw [ByteArray.size_extract]; omega
      have kS2 := fun W hT => impl_scan (l.extract 0 K) ms W hPs (by omega) hms hT
      have kT2 := fun W hT => impl_trim (l.extract 0 K) ms W hPs (by omega) hms hT
      rw [e4] at kT2
      have hTs : (l.extract 0 (cat ms).length).size ≤ 42 := by rw [ByteArray.size_extract]; omega
      have hns : (⟨#[110, 101, 119]⟩ : ByteArray).size = 3 := rfl
      have kN := fun W hT => impl_add (l.extract 0 (cat ms).length) ⟨#[110, 101, 119]⟩ W (by omega) (by omega) hT
      rw [ad_yes (by omega) (by omega)] at kN
      simp only at kN
      obtain ⟨g1, g2⟩ := put_behind (t := ⟨#[110, 101, 119]⟩) e5 hms.fits (by omega)
      have hYs : (l.extract 0 (cat ms).length ++ rcd ⟨#[110, 101, 119]⟩).size ≤ 1099511627776 := by have := rcd_le ⟨#[110, 101, 119]⟩; rw [ByteArray.size_append]; omega
      have kS3 := fun W hT => impl_scan (l.extract 0 (cat ms).length ++ rcd ⟨#[110, 101, 119]⟩) (ms ++ [⟨#[110, 101, 119]⟩]) W hYs (by rw [List.length_append]; show ms.length + 1 ≤ _; omega) (by rw [g1]; exact holds_cat g2) hT
      have HLN : Hid ((ms ++ [(⟨#[110, 101, 119]⟩ : ByteArray)]).length = ms.length + 1) := by show _ = _; rw [List.length_append]; rfl
      have HMs : Hid (ms = ss.take ms.length) := e1
      have hE : ¬ (K : Int) < ((cat ms).length : Int) := by omega
      have hEl : ((cat ms).length : Int) ≤ (l.size : Int) := by omega
      have hml : ms.length ≤ ss.length := e2
      have hmc : (ms.length : Int) ≤ (c0 : Int) := by omega
      have kE2 := fun a a2 cap cap2 W hA hA2 => eq_texts a a2 cap cap2 ms W hA hA2 (by omega)
      generalize l.extract 0 (cat ms).length ++ rcd ⟨#[110, 101, 119]⟩ = Yy at *
      clear hms e1 e2 e4 e5 g1 g2 hTs hns hYs hPs
      generalize hEE : (cat ms).length = E at *
      have hxx : ((l.extract 0 E).toList != (l.extract 0 E).toList) = false := by simp
      clear hEE e3
      have kD := fun W hC => draw_wal a L cap W hC hlen
      have kRi := fun W hT => impl_wr ⟨#[]⟩ W (by decide) hT
      have kRs := fun W => spec_wr ⟨#[]⟩ W (by decide)
      generalize rcd ⟨#[]⟩ = Rz at *
      have hrr : (Rz.toList == Rz.toList) = true := by simp
      go_wp2_with fail
      refine (kS1 _ HTw.out).mono ?_
      rintro e w1 ⟨v1, rfl, o1, bq⟩
      have HBq : Hid (Below w0.heap.size w0 w1) := HB.out.trans (bq.mono HB.out.size)
      clear HB
      have HB := HBq
      clear HBq
      have HR0q : Hid (StrO w1 (some ⟨b0, o0, none⟩) ss) := HR0.out.below bq
      clear HR0
      have HR0 := HR0q
      clear HR0q
      have HCwq : Hid (CodeAt w1 w1.heap.size a L) := code_below HCw.out bq
      clear HCw
      have HCw := HCwq
      clear HCwq
      have HTwq : Hid (Tab w1) := HTw.out.below bq
      clear HTw
      have HTw := HTwq
      clear HTwq
      clear bq
      obtain ⟨a1, c1, rfl, _, _, F1⟩ := own_fr o1
      have HR1 : Hid (StrO w1 a1 ss) := F1.o
      clear o1 F1
      go_wp2_with fail
      refine (kE1 _ _ _ _ _ HR1.out HR0.out).mono ?_
      rintro e wy ⟨rfl, qn, rfl⟩
      have bq : Below w1.heap.size w1 (w1.drewN qn) := below_drewN (Below.refl _ _) qn
      have HBq : Hid (Below w0.heap.size w0 (w1.drewN qn)) := HB.out.trans (bq.mono HB.out.size)
      clear HB
      have HB := HBq
      clear HBq
      have HR0q : Hid (StrO (w1.drewN qn) (some ⟨b0, o0, none⟩) ss) := HR0.out.below bq
      clear HR0
      have HR0 := HR0q
      clear HR0q
      have HCwq : Hid (CodeAt (w1.drewN qn) (w1.drewN qn).heap.size a L) := code_below HCw.out bq
      clear HCw
      have HCw := HCwq
      clear HCwq
      have HTwq : Hid (Tab (w1.drewN qn)) := HTw.out.below bq
      clear HTw
      have HTw := HTwq
      clear HTwq
      have HR1q : Hid (StrO (w1.drewN qn) a1 ss) := HR1.out.below bq
      clear HR1
      have HR1 := HR1q
      clear HR1q
      clear bq
      generalize w1.drewN qn = w2 at *
      clear HR1
      go_wp2_with fail
      refine (kA9 _ HCw.out).mono ?_
      rintro e w3 ⟨rfl, rfl⟩
      go_wp2_with fail
      refine (kS2 _ HTw.out).mono ?_
      rintro e w4 ⟨v2, rfl, o2, bq⟩
      have HBq : Hid (Below w0.heap.size w0 w4) := HB.out.trans (bq.mono HB.out.size)
      clear HB
      have HB := HBq
      clear HBq
      have HR0q : Hid (StrO w4 (some ⟨b0, o0, none⟩) ss) := HR0.out.below bq
      clear HR0
      have HR0 := HR0q
      clear HR0q
      have HCwq : Hid (CodeAt w4 w4.heap.size a L) := code_below HCw.out bq
      clear HCw
      have HCw := HCwq
      clear HCwq
      have HTwq : Hid (Tab w4) := HTw.out.below bq
      clear HTw
      have HTw := HTwq
      clear HTwq
      clear bq
      obtain ⟨a2, c2, rfl, _, _, F2⟩ := own_fr o2
      have HR2 : Hid (StrO w4 a2 ms) := F2.o
      clear o2 F2
      go_wp2_with fail
      refine (kT2 _ HTw.out).mono ?_
      rintro e w5 ⟨rfl, bq⟩
      have HBq : Hid (Below w0.heap.size w0 w5) := HB.out.trans (bq.mono HB.out.size)
      clear HB
      have HB := HBq
      clear HBq
      have HR0q : Hid (StrO w5 (some ⟨b0, o0, none⟩) ss) := HR0.out.below bq
      clear HR0
      have HR0 := HR0q
      clear HR0q
      have HCwq : Hid (CodeAt w5 w5.heap.size a L) := code_below HCw.out bq
      clear HCw
      have HCw := HCwq
      clear HCwq
      have HTwq : Hid (Tab w5) := HTw.out.below bq
      clear HTw
      have HTw := HTwq
      clear HTwq
      have HR2q : Hid (StrO w5 a2 ms) := HR2.out.below bq
      clear HR2
      have HR2 := HR2q
      clear HR2q
      clear bq
      go_wp2_with fail
      refine (kN _ HTw.out).mono ?_
      rintro e w6 ⟨rfl, bq⟩
      have HBq : Hid (Below w0.heap.size w0 w6) := HB.out.trans (bq.mono HB.out.size)
      clear HB
      have HB := HBq
      clear HBq
      have HR0q : Hid (StrO w6 (some ⟨b0, o0, none⟩) ss) := HR0.out.below bq
      clear HR0
      have HR0 := HR0q
      clear HR0q
      have HCwq : Hid (CodeAt w6 w6.heap.size a L) := code_below HCw.out bq
      clear HCw
      have HCw := HCwq
      clear HCwq
      have HTwq : Hid (Tab w6) := HTw.out.below bq
      clear HTw
      have HTw := HTwq
      clear HTwq
      have HR2q : Hid (StrO w6 a2 ms) := HR2.out.below bq
      clear HR2
      have HR2 := HR2q
      clear HR2q
      clear bq
      go_wp2_with fail
      refine (kS3 _ HTw.out).mono ?_
      rintro e w7 ⟨v3, rfl, o3, bq⟩
      have HBq : Hid (Below w0.heap.size w0 w7) := HB.out.trans (bq.mono HB.out.size)
      clear HB
      have HB := HBq
      clear HBq
      have HR0q : Hid (StrO w7 (some ⟨b0, o0, none⟩) ss) := HR0.out.below bq
      clear HR0
      have HR0 := HR0q
      clear HR0q
      have HCwq : Hid (CodeAt w7 w7.heap.size a L) := code_below HCw.out bq
      clear HCw
      have HCw := HCwq
      clear HCwq
      have HTwq : Hid (Tab w7) := HTw.out.below bq
      clear HTw
      have HTw := HTwq
      clear HTwq
      have HR2q : Hid (StrO w7 a2 ms) := HR2.out.below bq
      clear HR2
      have HR2 := HR2q
      clear HR2q
      clear bq
      obtain ⟨a3, c3, rfl, hc3, _, F3⟩ := own_fr o3
      obtain ⟨b3, o3v, rfl, hA3⟩ : ∃ b o, a3 = some ⟨b, o, none⟩ ∧ StrAt w7 b o (ms ++ [⟨#[110, 101, 119]⟩]) := by
        rcases F3 with h | ⟨b, o, h, _, h2, _⟩
        · have := HLN.out; omega
        · exact ⟨b, o, h, h2⟩
      have hcell := hA3 ms.length (by have := HLN.out; omega)
      rw [List.getElem_append_right (Nat.le_refl _)] at hcell
      simp only [Nat.sub_self, List.getElem_cons_zero] at hcell
      rw [HLN.out] at hc3 ⊢
      have HX3 : Hid (w7.cell? ⟨b3, o3v + ms.length, none⟩ = some (.string ⟨#[110, 101, 119]⟩)) := hcell
      clear hA3 F3 o3 hcell
      have HRm : Hid (StrO w7 (some ⟨b0, o0, none⟩) ms) := by show StrO _ _ _; rw [HMs.out]; exact take_any _ ss _ _ HR0.out
      go_wp2_with fail
      refine (kE2 _ _ _ _ _ HR2.out HRm.out).mono ?_
      rintro e wy ⟨rfl, qn, rfl⟩
      have bq : Below w7.heap.size w7 (w7.drewN qn) := below_drewN (Below.refl _ _) qn
      have HBq : Hid (Below w0.heap.size w0 (w7.drewN qn)) := HB.out.trans (bq.mono HB.out.size)
      clear HB
      have HB := HBq
      clear HBq
      have HR0q : Hid (StrO (w7.drewN qn) (some ⟨b0, o0, none⟩) ss) := HR0.out.below bq
      clear HR0
      have HR0 := HR0q
      clear HR0q
      have HCwq : Hid (CodeAt (w7.drewN qn) (w7.drewN qn).heap.size a L) := code_below HCw.out bq
      clear HCw
      have HCw := HCwq
      clear HCwq
      have HTwq : Hid (Tab (w7.drewN qn)) := HTw.out.below bq
      clear HTw
      have HTw := HTwq
      clear HTwq
      have HR2q : Hid (StrO (w7.drewN qn) a2 ms) := HR2.out.below bq
      clear HR2
      have HR2 := HR2q
      clear HR2q
      have HX3q : Hid ((w7.drewN qn).cell? ⟨b3, o3v + ms.length, none⟩ = some (.string ⟨#[110, 101, 119]⟩)) := (bq.cell (World.block_lt_of_cell? w7 _ HX3.out)).trans HX3.out
      clear HX3
      have HX3 := HX3q
      clear HX3q
      have HRmq : Hid (StrO (w7.drewN qn) (some ⟨b0, o0, none⟩) ms) := HRm.out.below bq
      clear HRm
      have HRm := HRmq
      clear HRmq
      clear bq
      generalize w7.drewN qn = w8 at *
      have hcx := HX3.out
      go_wp2_with fail
      refine (kD _ HCw.out).mono ?_
      rintro e w9 ⟨x, rfl, HX, HBq⟩
      have bq := HBq.out
      clear HR0
      clear HRm
      clear HR2
      clear HX3
      clear hcx HBq
      have HBq : Hid (Below w0.heap.size w0 w9) := HB.out.trans (bq.mono HB.out.size)
      clear HB
      have HB := HBq
      clear HBq
      have HCwq : Hid (CodeAt w9 w9.heap.size a L) := code_below HCw.out bq
      clear HCw
      have HCw := HCwq
      clear HCwq
      have HTwq : Hid (Tab w9) := HTw.out.below bq
      clear HTw
      have HTw := HTwq
      clear HTwq
      clear bq
      have hx2 : x.size ≤ 2000 := HX.out
      obtain ⟨us, hus⟩ := holds_ex _ x.data.toList (Nat.le_refl _)
      have hfu := hus.few
      rw [len_toList] at hfu
      have kS4 := fun W hT => impl_scan x us W (by omega) (by omega) hus hT
      have kS5 := fun W => spec_scan x us W (by omega) (by omega) hus
      have kE3 := fun a a2 cap cap2 W hA hA2 => eq_texts a a2 cap cap2 us W hA hA2 (by omega)
      generalize (cat us).length = U at *
      have huu : ((U : Int) == (U : Int)) = true := by simp
      clear hus HX hfu
      go_wp2_with fail
      refine (kS4 _ HTw.out).mono ?_
      rintro e wA ⟨v4, rfl, o4, bq⟩
      have HBq : Hid (Below w0.heap.size w0 wA) := HB.out.trans (bq.mono HB.out.size)
      clear HB
      have HB := HBq
      clear HBq
      have HCwq : Hid (CodeAt wA wA.heap.size a L) := code_below HCw.out bq
      clear HCw
      have HCw := HCwq
      clear HCwq
      have HTwq : Hid (Tab wA) := HTw.out.below bq
      clear HTw
      have HTw := HTwq
      clear HTwq
      clear bq
      obtain ⟨a4, c4, rfl, _, _, F4⟩ := own_fr o4
      have HR4 : Hid (StrO wA a4 us) := F4.o
      clear o4 F4
      go_wp2_with fail
      refine (kS5 _).mono ?_
      rintro e wB ⟨v5, rfl, o5, bq⟩
      have HBq : Hid (Below w0.heap.size w0 wB) := HB.out.trans (bq.mono HB.out.size)
      clear HB
      have HB := HBq
      clear HBq
      have HCwq : Hid (CodeAt wB wB.heap.size a L) := code_below HCw.out bq
      clear HCw
      have HCw := HCwq
      clear HCwq
      have HTwq : Hid (Tab wB) := HTw.out.below bq
      clear HTw
      have HTw := HTwq
      clear HTwq
      have HR4q : Hid (StrO wB a4 us) := HR4.out.below bq
      clear HR4
      have HR4 := HR4q
      clear HR4q
      clear bq
      obtain ⟨a5, c5, rfl, _, _, F5⟩ := own_fr o5
      have HR5 : Hid (StrO wB a5 us) := F5.o
      clear o5 F5
      go_wp2_with fail
      refine (kE3 _ _ _ _ _ HR4.out HR5.out).mono ?_
      rintro e wy ⟨rfl, qn, rfl⟩
      have bq : Below wB.heap.size wB (wB.drewN qn) := below_drewN (Below.refl _ _) qn
      have HBq : Hid (Below w0.heap.size w0 (wB.drewN qn)) := HB.out.trans (bq.mono HB.out.size)
      clear HB
      have HB := HBq
      clear HBq
      have HCwq : Hid (CodeAt (wB.drewN qn) (wB.drewN qn).heap.size a L) := code_below HCw.out bq
      clear HCw
      have HCw := HCwq
      clear HCwq
      have HTwq : Hid (Tab (wB.drewN qn)) := HTw.out.below bq
      clear HTw
      have HTw := HTwq
      clear HTwq
      have HR4q : Hid (StrO (wB.drewN qn) a4 us) := HR4.out.below bq
      clear HR4
      have HR4 := HR4q
      clear HR4q
      have HR5q : Hid (StrO (wB.drewN qn) a5 us) := HR5.out.below bq
      clear HR5
      have HR5 := HR5q
      clear HR5q
      clear bq
      generalize wB.drewN qn = wC at *
      clear HR4 HR5
      go_wp2_with fail
      refine (kRi _ HTw.out).mono ?_
      rintro e wD ⟨rfl, bq⟩
      have HBq : Hid (Below w0.heap.size w0 wD) := HB.out.trans (bq.mono HB.out.size)
      clear HB
      have HB := HBq
      clear HBq
      have HCwq : Hid (CodeAt wD wD.heap.size a L) := code_below HCw.out bq
      clear HCw
      have HCw := HCwq
      clear HCwq
      have HTwq : Hid (Tab wD) := HTw.out.below bq
      clear HTw
      have HTw := HTwq
      clear HTwq
      clear bq
      go_wp2_with fail
      refine (kRs _).mono ?_
      rintro e wE ⟨rfl, bq⟩
      have HBq : Hid (Below w0.heap.size w0 wE) := HB.out.trans (bq.mono HB.out.size)
      clear HB
      have HB := HBq
      clear HBq
      have HCwq : Hid (CodeAt wE wE.heap.size a L) := code_below HCw.out bq
      clear HCw
      have HCw := HCwq
      clear HCwq
      have HTwq : Hid (Tab wE) := HTw.out.below bq
      clear HTw
      have HTw := HTwq
      clear HTwq
      clear bq
      go_wp2
      go_ret
      exact ⟨rfl, HB.out⟩
end Go.Proofs.YtdpjlfgfacjfeaaDoor
