/- The walk of the law on a validator that falls: it answers true, old memory stays. Conditions: none of ours. -/
import Derived.Test.YtmjlpdmdpagggaaFo14a
import Derived.Test.YtmjlpdmdpagggaaWx14a
import Derived.Test.YtmjlpdmdpagggaaAk14
import Derived.Test.YtmjlpdmdpagggaaDn14
namespace Go.Proofs.Ytmjlpdmdpagggaa
open Go.RowKit
open Num
set_option linter.unusedVariables false
theorem Rdd.up {W : World} {B C C' : Nat} {l : List Vt} {a : Option Addr} (h : Rdd W B C l a) (hC : C ≤ C') : Rdd W B C' l a := ⟨h.1, fun b o e => Nat.lt_of_lt_of_le (h.2.1 b o e) hC, h.2.2⟩
/-- What is known of the code's bytes, wherever the walk stands. -/
theorem at_w {a : Option Addr} {L : List UInt8} {cap : Nat} {w : World} (hl : CodeAt w w.heap.size a L) (hlen : L.length ≤ 1048576) (i : Nat) (hi : i ≤ 1000) (z : Int) (hz : z = (i : Int)) (W : World) (hb : Below w.heap.size w W) :
    Calls Try.prog 12 #[.slice a L.length cap, .int .i64 z] W fun e w' => e = .returned (.int .i64 (atV L i)) ∧ w' = W := by
  subst hz
  exact at_any a L cap i W (code_below hl hb) hlen hi
theorem wr_small {z : Int} (h0 : 0 ≤ z) (h1 : z < 9223372036854775808) : IntKind.i64.wrap z = z := by
  simp [IntKind.wrap, IntKind.bits, IntKind.signed]; omega
theorem rem_of {x n : Int} (h0 : 0 ≤ x) (hn : 0 < n) : 0 ≤ x.tmod n ∧ x.tmod n < n := by
  rw [Int.tmod_eq_emod_of_nonneg h0]
  exact ⟨Int.emod_nonneg _ (by omega), Int.emod_lt_of_pos _ hn⟩
def zs11 : List Value := [.int .i64 0, .int .i64 0, .int .i64 0, .int .i64 0, .string ⟨#[]⟩, .int .i64 0, .int .i64 0, .int .i64 0, .string ⟨#[]⟩, .bool false, .slice none 0 0]
set_option maxHeartbeats 25600000 in
set_option maxRecDepth 100000 in
theorem w_once (a : Option Addr) (L : List UInt8) (cap : Nat) (w : World) (hl : CodeAt w w.heap.size a L) (hm : L.length ≤ 9223372036854775807) :
    Calls Try.prog 3 #[.slice a L.length cap] w fun e w' => e = .returned (.bool true) ∧ Below w.heap.size w w' := by
  have kBig := big_any a L.length cap w hm
  have HL : Hid (CodeAt w w.heap.size a L) := hl
  clear hl
  have HB0 : Hid (Below w.heap.size w w) := Below.refl _ _
  go_enter Try.func3, Try.ntmps3
  go_wp2_with fail
  refine kBig.mono ?_
  rintro e w1 ⟨rfl, hw1⟩
  rw [hw1]
  clear hw1 w1
  by_cases hbig : (1048576 : Int) < (L.length : Int)
  · have hd : decide ((1048576 : Int) < (L.length : Int)) = true := decide_eq_true hbig
    rw [hd]
    go_wp2
    go_ret
    exact ⟨rfl, HB0.out⟩
  have hd : decide ((1048576 : Int) < (L.length : Int)) = false := decide_eq_false hbig
  rw [hd]
  clear hd kBig
  have hlen : L.length ≤ 1048576 := by omega
  clear hbig hm
  have k0 := at_w (cap := cap) HL.out hlen 0 (by omega) 0 rfl w HB0.out
  have hb0 := atV_bound L 0
  generalize atV L 0 = x0 at *
  have hm0 := rem_of (n := 5) hb0.1 (by decide)
  generalize hmm : x0.tmod 5 = m0 at *
  obtain ⟨hm1, hm2⟩ := hm0
  obtain ⟨hx1, hx2⟩ := hb0
  go_wp2_with fail
  refine k0.mono ?_
  rintro e w1 ⟨rfl, hw1⟩
  rw [hw1]
  clear hw1 w1 k0
  have HS0 : Hid (Blk (w.alloc (.cells #[.int .i64 (1 + m0), .int .i64 0, .int .i64 0, .int .i64 0, .string ⟨#[]⟩, .int .i64 0, .int .i64 0, .int .i64 0, .string ⟨#[]⟩, .bool false, .slice none 0 0] 29)) w.heap.size (sL ⟨1 + m0, gz, gz, false, []⟩ (.slice none 0 0)) 29) := blk_new w _ _
  have HB1 : Hid (Below w.heap.size w (w.alloc (.cells #[.int .i64 (1 + m0), .int .i64 0, .int .i64 0, .int .i64 0, .string ⟨#[]⟩, .int .i64 0, .int .i64 0, .int .i64 0, .string ⟨#[]⟩, .bool false, .slice none 0 0] 29))) := below_one _ _
  have HI0 : Hid (Inv ⟨1 + m0, gz, gz, false, []⟩) := inv_new (by omega) (by omega)
  go_wp2
  clear hmm hx1 hx2
  generalize w.alloc (Obj.cells #[.int .i64 (1 + m0), .int .i64 0, .int .i64 0, .int .i64 0, .string ⟨#[]⟩, .int .i64 0, .int .i64 0, .int .i64 0, .string ⟨#[]⟩, .bool false, .slice none 0 0] 29) = w0 at *
  clear HB0
  go_loopw [4] (fun iv wr => ∃ (i : Nat) (z : Sg) (za : Option Addr) (zc : Nat), iv = .int .i64 (i : Int) ∧ 1 ≤ i ∧ i ≤ 60 ∧ z.o.length + 1 ≤ i ∧ Hid (Inv z) ∧ Hid (Blk wr w.heap.size (sL z (.slice za z.o.length zc)) 29) ∧ Hid (Rdd wr (w.heap.size + 1) wr.heap.size z.o za) ∧ Hid ((za = none → zc = 0) ∧ z.o.length ≤ zc ∧ zc ≤ 9223372036854775807) ∧ Hid (Below w.heap.size w wr)) (fun iv _ => 60 - (intOf iv).toNat)
  case atStart => exact ⟨1, _, none, 0, rfl, Nat.le_refl _, by omega, Nat.le_refl _, HI0, HS0, ⟨.inl rfl, (fun b o e => by cases e), .inl rfl⟩, ⟨fun _ => rfl, Nat.le_refl _, by omega⟩, HB1⟩
  case round =>
    clear HS0 HB1 HI0 hm1 hm2
    obtain ⟨i, z, za, zc, rfl, hi1, hi2, hzl, HI, HS, HR, HF, HB⟩ := hrel
    by_cases hlt : i < 60
    rotate_left
    · have hltz : ¬ (i : Int) < 60 := by omega
      go_wp2
      go_ret
      exact ⟨rfl, HB.out⟩
    have hltz : (i : Int) < 60 := by omega
    obtain ⟨zv, ⟨zdh, zdr, zds, zdi⟩, ⟨zmh, zmr, zms, zmi⟩, zp, zo⟩ := z
    unfold sL at HS
    simp only at HS HR HF hzl
    have HS : Hid (Blk wr w.heap.size [.int .i64 zv, .int .i64 zdh, .int .i64 zdr, .int .i64 zds, .string zdi, .int .i64 zmh, .int .i64 zmr, .int .i64 zms, .string zmi, .bool zp, .slice za zo.length zc] 29) := HS
    have hwS : w.heap.size < wr.heap.size := HS.out.lt
    obtain ⟨nV, hnV⟩ : ∃ n, wr.heap.size = n := ⟨_, rfl⟩
    have kA0 := fun W hb => at_w (cap := cap) HL.out hlen i (by omega) (i : Int) rfl W hb
    have kA1 := fun W hb => at_w (cap := cap) HL.out hlen (i + 1) (by omega) ((i : Int) + 1) (by omega) W hb
    have kA2 := fun W hb => at_w (cap := cap) HL.out hlen (i + 2) (by omega) ((i : Int) + 2) (by omega) W hb
    have hb0 := atV_bound L i
    have hb1 := atV_bound L (i + 1)
    have hb2 := atV_bound L (i + 2)
    generalize atV L i = x0 at *
    generalize atV L (i + 1) = x1 at *
    generalize atV L (i + 2) = x2 at *
    have hr0 := rem_of (n := 3) hb0.1 (by decide)
    have hr1 := rem_of (n := 2) hb1.1 (by decide)
    have hr2 := rem_of (n := 2) hb2.1 (by decide)
    generalize hq0 : x0.tmod 3 = m0 at *
    generalize hq1 : x1.tmod 2 = m1 at *
    generalize hq2 : x2.tmod 2 = m2 at *
    obtain ⟨ha0, ha1⟩ := hr0
    obtain ⟨hc0, hc1⟩ := hr1
    obtain ⟨hd0, hd1⟩ := hr2
    obtain ⟨hx0, hx0'⟩ := hb0
    obtain ⟨hx1, hx1'⟩ := hb1
    obtain ⟨hx2, hx2'⟩ := hb2
    clear hx0 hx1 hx2 hx0' hx1' hx2'
    have wi1 : IntKind.i64.wrap ((i : Int) + 1) = (i : Int) + 1 := wr_small (by omega) (by omega)
    have wi2 : IntKind.i64.wrap ((i : Int) + 2) = (i : Int) + 2 := wr_small (by omega) (by omega)
    have wm0 : IntKind.i64.wrap (1 + m0) = 1 + m0 := wr_small (by omega) (by omega)
    have wm2 : IntKind.i64.wrap (1 + m2) = 1 + m2 := wr_small (by omega) (by omega)
    have HBd : Hid (Below w.heap.size w wr.drew) := HB.out.trans ((Below.refl _ _).drew.mono HB.out.size)
    go_upto_region 7 with fail
    go_cut [5] (fun s wx => ∃ y : Vt, s = .pointer (some ⟨nV, 0, none⟩) ∧ Hid (Blk wx nV [.int .i64 y.h, .int .i64 y.r, .int .i64 y.s, .string y.i, .int .i64 y.v] 31) ∧ Hid (Below wr.heap.size wr wx))
    case first =>
      have hwd : wr.drew.heap.size = nV := hnV
      have hwS2 : w.heap.size < wr.drew.heap.size := hwS
      have HXd : Hid (Below wr.heap.size wr wr.drew) := (Below.refl _ _).drew
      have hSd : wr.drew.cell? ⟨w.heap.size, 0, none⟩ = some (.int .i64 zv) := HS.out.cell 0 rfl
      have HSB : Hid (∀ W, Below wr.drew.heap.size wr.drew W → W.cell? ⟨w.heap.size, 0, none⟩ = some (.int .i64 zv)) := fun W hb => (hb.cell (p := ⟨w.heap.size, 0, none⟩) hwS2).trans hSd
      have HSd : Hid (wr.drew.cell? ⟨w.heap.size, 0, none⟩ = some (.int .i64 zv)) := hSd
      subst hwd
      clear hSd HS HR HF HI HB hwS hwS2 HL hzl hlen
      go_wp2_with fail
      refine wp_region_held_drew (S := (fun W : World => W.cell? ⟨w.heap.size, 0, none⟩ = some (.int .i64 zv))) (by kernel_rfl) ?_ (fun hHeld => ?_)
      · exact HSd.out
      have hle : wr.heap.size ≤ wr.drew.heap.size := HXd.out.size
      generalize wr.drew = wd at *
      refine wpAnyH_take (i := 0) (oi := { dst := some 30, op := Go.Op.move (Go.Operand.tmp 0), type := 22, pos := "laws.go:584", after := #[], guard := none }) (v := ?_) rfl (by kernel_rfl) (by kernel_rfl) (by kernel_rfl) (fun _ _ _ h => h) (Or.inl ⟨by rfl, ?_⟩) hHeld ?_
      rotate_left
      · intro w hSw
        try dsimp only at hSw
        go_simp
        try (with_reducible rfl)
      simp only [Act.put, List.setIfInBounds_toArray, List.set_cons_zero, List.set_cons_succ]
      refine wpAnyH_take (i := 1) (oi := { dst := some 31, op := Go.Op.move (Go.Operand.tmp 4), type := 3, pos := "laws.go:584", after := #[], guard := none }) (v := ?_) rfl (by kernel_rfl) (by kernel_rfl) (by kernel_rfl) (fun _ _ _ h => h) (Or.inl ⟨by rfl, ?_⟩) hHeld ?_
      rotate_left
      · intro w hSw
        try dsimp only at hSw
        go_simp
        try (with_reducible rfl)
      simp only [Act.put, List.setIfInBounds_toArray, List.set_cons_zero, List.set_cons_succ]
      refine wpAnyH_take (i := 5) (oi := { dst := some 35, op := Go.Op.move (Go.Operand.tmp 0), type := 22, pos := "laws.go:584", after := #[], guard := none }) (v := ?_) rfl (by kernel_rfl) (by kernel_rfl) (by kernel_rfl) (fun _ _ _ h => h) (Or.inl ⟨by rfl, ?_⟩) hHeld ?_
      rotate_left
      · intro w hSw
        try dsimp only at hSw
        go_simp
        try (with_reducible rfl)
      simp only [Act.put, List.setIfInBounds_toArray, List.set_cons_zero, List.set_cons_succ]
      refine wpAnyH_take (i := 6) (oi := { dst := some 36, op := Go.Op.move (Go.Operand.tmp 4), type := 3, pos := "laws.go:584", after := #[], guard := none }) (v := ?_) rfl (by kernel_rfl) (by kernel_rfl) (by kernel_rfl) (fun _ _ _ h => h) (Or.inl ⟨by rfl, ?_⟩) hHeld ?_
      rotate_left
      · intro w hSw
        try dsimp only at hSw
        go_simp
        try (with_reducible rfl)
      simp only [Act.put, List.setIfInBounds_toArray, List.set_cons_zero, List.set_cons_succ]
      refine wpAnyH_take (i := 7) (oi := { dst := some 37, op := Go.Op.binOp Go.BinOp.add 3 (Go.Operand.tmp 36) (Go.Operand.const (Go.Value.int Go.IntKind.i64 1)) 3, type := 3, pos := "laws.go:584", after := #[{ on := 6, ground := Go.Ground.data }], guard := none }) (v := ?_) rfl (by kernel_rfl) (by kernel_rfl) (by kernel_rfl) (fun _ _ _ h => h) (Or.inl ⟨by rfl, ?_⟩) hHeld ?_
      rotate_left
      · intro w hSw
        try dsimp only at hSw
        go_simp
        try (with_reducible rfl)
      simp only [Act.put, List.setIfInBounds_toArray, List.set_cons_zero, List.set_cons_succ]
      refine wpAnyH_take (i := 10) (oi := { dst := some 40, op := Go.Op.move (Go.Operand.tmp 0), type := 22, pos := "laws.go:584", after := #[], guard := none }) (v := ?_) rfl (by kernel_rfl) (by kernel_rfl) (by kernel_rfl) (fun _ _ _ h => h) (Or.inl ⟨by rfl, ?_⟩) hHeld ?_
      rotate_left
      · intro w hSw
        try dsimp only at hSw
        go_simp
        try (with_reducible rfl)
      simp only [Act.put, List.setIfInBounds_toArray, List.set_cons_zero, List.set_cons_succ]
      refine wpAnyH_take (i := 11) (oi := { dst := some 41, op := Go.Op.move (Go.Operand.tmp 4), type := 3, pos := "laws.go:584", after := #[], guard := none }) (v := ?_) rfl (by kernel_rfl) (by kernel_rfl) (by kernel_rfl) (fun _ _ _ h => h) (Or.inl ⟨by rfl, ?_⟩) hHeld ?_
      rotate_left
      · intro w hSw
        try dsimp only at hSw
        go_simp
        try (with_reducible rfl)
      simp only [Act.put, List.setIfInBounds_toArray, List.set_cons_zero, List.set_cons_succ]
      refine wpAnyH_take (i := 12) (oi := { dst := some 42, op := Go.Op.binOp Go.BinOp.add 3 (Go.Operand.tmp 41) (Go.Operand.const (Go.Value.int Go.IntKind.i64 2)) 3, type := 3, pos := "laws.go:584", after := #[{ on := 11, ground := Go.Ground.data }], guard := none }) (v := ?_) rfl (by kernel_rfl) (by kernel_rfl) (by kernel_rfl) (fun _ _ _ h => h) (Or.inl ⟨by rfl, ?_⟩) hHeld ?_
      rotate_left
      · intro w hSw
        try dsimp only at hSw
        go_simp
        try (with_reducible rfl)
      simp only [Act.put, List.setIfInBounds_toArray, List.set_cons_zero, List.set_cons_succ]
      refine wpAnyH_take (i := 16) (oi := { dst := some 46, op := Go.Op.fieldAddr 29 (Go.Operand.tmp 3) 0, type := 0, pos := "laws.go:584", after := #[], guard := none }) (v := ?_) rfl (by kernel_rfl) (by kernel_rfl) (by kernel_rfl) (fun _ _ _ h => h) (Or.inl ⟨by rfl, ?_⟩) hHeld ?_
      rotate_left
      · intro w hSw
        try dsimp only at hSw
        go_simp
        try (with_reducible rfl)
      simp only [Act.put, List.setIfInBounds_toArray, List.set_cons_zero, List.set_cons_succ]
      refine wpAnyH_take (i := 17) (oi := { dst := some 47, op := Go.Op.load 3 (Go.Operand.tmp 46), type := 3, pos := "laws.go:584", after := #[{ on := 16, ground := Go.Ground.data }], guard := none }) (v := ?_) rfl (by kernel_rfl) (by kernel_rfl) (by kernel_rfl) (fun _ _ _ h => h) (Or.inl ⟨by rfl, ?_⟩) hHeld ?_
      rotate_left
      · intro w hSw
        try dsimp only at hSw
        go_simp
        try (with_reducible rfl)
      simp only [Act.put, List.setIfInBounds_toArray, List.set_cons_zero, List.set_cons_succ]
      refine wpAnyH_ready (rs := [2, 19]) (by kernel_rfl) (by decide) ?_
      refine AllReadyH.cons (o := { dst := some 32, op := Go.Op.call { callee := Go.Callee.value (Go.Operand.func 12), args := #[Go.Operand.tmp 30, Go.Operand.tmp 31], argTypes := #[22, 3] }, type := 3, pos := "laws.go:584", after := #[{ on := 0, ground := Go.Ground.data }, { on := 1, ground := Go.Ground.data }], guard := none }) rfl (fun K hK => ?_) (AllReadyH.cons (o := { dst := some 5, op := Go.Op.alloc 31, type := 0, pos := "laws.go:584", after := #[], guard := none }) rfl (fun K hK => ?_) AllReadyH.nil)
      · go_simp
        refine (kA0 _ HBd.out).mono ?_
        rintro e wx ⟨rfl, hwx⟩
        rw [hwx]
        clear hwx wx
        refine hK.out _ _ (HSd.out) (fun hHeld => ?_)
        clear hK K
        try simp only [Act.put, List.setIfInBounds_toArray, List.set_cons_zero, List.set_cons_succ]
        refine wpAnyH_take (i := 3) (oi := { dst := some 33, op := Go.Op.binOp Go.BinOp.rem 3 (Go.Operand.tmp 32) (Go.Operand.const (Go.Value.int Go.IntKind.i64 3)) 3, type := 3, pos := "laws.go:584", after := #[{ on := 2, ground := Go.Ground.data }], guard := none }) (v := ?_) rfl (by kernel_rfl) (by kernel_rfl) (by kernel_rfl) (fun _ _ _ h => h) (Or.inl ⟨by rfl, ?_⟩) hHeld ?_
        rotate_left
        · intro w hSw
          try dsimp only at hSw
          go_simp
          try (with_reducible rfl)
        simp only [Act.put, List.setIfInBounds_toArray, List.set_cons_zero, List.set_cons_succ]
        refine wpAnyH_take (i := 4) (oi := { dst := some 34, op := Go.Op.binOp Go.BinOp.add 3 (Go.Operand.const (Go.Value.int Go.IntKind.i64 1)) (Go.Operand.tmp 33) 3, type := 3, pos := "laws.go:584", after := #[{ on := 3, ground := Go.Ground.data }], guard := none }) (v := ?_) rfl (by kernel_rfl) (by kernel_rfl) (by kernel_rfl) (fun _ _ _ h => h) (Or.inl ⟨by rfl, ?_⟩) hHeld ?_
        rotate_left
        · intro w hSw
          try dsimp only at hSw
          go_simp
          try (with_reducible rfl)
        simp only [Act.put, List.setIfInBounds_toArray, List.set_cons_zero, List.set_cons_succ]
        refine wpAnyH_ready (rs := [8, 19]) (by kernel_rfl) (by decide) ?_
        refine AllReadyH.cons (o := { dst := some 38, op := Go.Op.call { callee := Go.Callee.value (Go.Operand.func 12), args := #[Go.Operand.tmp 35, Go.Operand.tmp 37], argTypes := #[22, 3] }, type := 3, pos := "laws.go:584", after := #[{ on := 5, ground := Go.Ground.data }, { on := 7, ground := Go.Ground.data }, { on := 2, ground := Go.Ground.chain }], guard := none }) rfl (fun K hK => ?_) (AllReadyH.cons (o := { dst := some 5, op := Go.Op.alloc 31, type := 0, pos := "laws.go:584", after := #[], guard := none }) rfl (fun K hK => ?_) AllReadyH.nil)
        · go_simp
          refine (kA1 _ HBd.out).mono ?_
          rintro e wx ⟨rfl, hwx⟩
          rw [hwx]
          clear hwx wx
          refine hK.out _ _ (HSd.out) (fun hHeld => ?_)
          clear hK K
          try simp only [Act.put, List.setIfInBounds_toArray, List.set_cons_zero, List.set_cons_succ]
          refine wpAnyH_take (i := 9) (oi := { dst := some 39, op := Go.Op.binOp Go.BinOp.rem 3 (Go.Operand.tmp 38) (Go.Operand.const (Go.Value.int Go.IntKind.i64 2)) 3, type := 3, pos := "laws.go:584", after := #[{ on := 8, ground := Go.Ground.data }], guard := none }) (v := ?_) rfl (by kernel_rfl) (by kernel_rfl) (by kernel_rfl) (fun _ _ _ h => h) (Or.inl ⟨by rfl, ?_⟩) hHeld ?_
          rotate_left
          · intro w hSw
            try dsimp only at hSw
            go_simp
            try (with_reducible rfl)
          simp only [Act.put, List.setIfInBounds_toArray, List.set_cons_zero, List.set_cons_succ]
          refine wpAnyH_ready (rs := [13, 19]) (by kernel_rfl) (by decide) ?_
          refine AllReadyH.cons (o := { dst := some 43, op := Go.Op.call { callee := Go.Callee.value (Go.Operand.func 12), args := #[Go.Operand.tmp 40, Go.Operand.tmp 42], argTypes := #[22, 3] }, type := 3, pos := "laws.go:584", after := #[{ on := 10, ground := Go.Ground.data }, { on := 12, ground := Go.Ground.data }, { on := 8, ground := Go.Ground.chain }], guard := none }) rfl (fun K hK => ?_) (AllReadyH.cons (o := { dst := some 5, op := Go.Op.alloc 31, type := 0, pos := "laws.go:584", after := #[], guard := none }) rfl (fun K hK => ?_) AllReadyH.nil)
          · go_simp
            refine (kA2 _ HBd.out).mono ?_
            rintro e wx ⟨rfl, hwx⟩
            rw [hwx]
            clear hwx wx
            refine hK.out _ _ (HSd.out) (fun hHeld => ?_)
            clear hK K
            try simp only [Act.put, List.setIfInBounds_toArray, List.set_cons_zero, List.set_cons_succ]
            refine wpAnyH_take (i := 14) (oi := { dst := some 44, op := Go.Op.binOp Go.BinOp.rem 3 (Go.Operand.tmp 43) (Go.Operand.const (Go.Value.int Go.IntKind.i64 2)) 3, type := 3, pos := "laws.go:584", after := #[{ on := 13, ground := Go.Ground.data }], guard := none }) (v := ?_) rfl (by kernel_rfl) (by kernel_rfl) (by kernel_rfl) (fun _ _ _ h => h) (Or.inl ⟨by rfl, ?_⟩) hHeld ?_
            rotate_left
            · intro w hSw
              try dsimp only at hSw
              go_simp
              try (with_reducible rfl)
            simp only [Act.put, List.setIfInBounds_toArray, List.set_cons_zero, List.set_cons_succ]
            refine wpAnyH_take (i := 15) (oi := { dst := some 45, op := Go.Op.binOp Go.BinOp.add 3 (Go.Operand.const (Go.Value.int Go.IntKind.i64 1)) (Go.Operand.tmp 44) 3, type := 3, pos := "laws.go:584", after := #[{ on := 14, ground := Go.Ground.data }], guard := none }) (v := ?_) rfl (by kernel_rfl) (by kernel_rfl) (by kernel_rfl) (fun _ _ _ h => h) (Or.inl ⟨by rfl, ?_⟩) hHeld ?_
            rotate_left
            · intro w hSw
              try dsimp only at hSw
              go_simp
              try (with_reducible rfl)
            simp only [Act.put, List.setIfInBounds_toArray, List.set_cons_zero, List.set_cons_succ]
            refine wpAnyH_take (i := 18) (oi := { dst := some 48, op := Go.Op.build 31 #[(0, Go.Operand.tmp 34), (1, Go.Operand.tmp 39), (2, Go.Operand.tmp 45), (4, Go.Operand.tmp 47)], type := 31, pos := "laws.go:584", after := #[{ on := 4, ground := Go.Ground.data }, { on := 9, ground := Go.Ground.data }, { on := 15, ground := Go.Ground.data }, { on := 17, ground := Go.Ground.data }], guard := none }) (v := ?_) rfl (by kernel_rfl) (by kernel_rfl) (by kernel_rfl) (fun _ _ _ h => h) (Or.inl ⟨by rfl, ?_⟩) hHeld ?_
            rotate_left
            · intro w hSw
              try dsimp only at hSw
              go_simp
              try (with_reducible rfl)
            simp only [Act.put, List.setIfInBounds_toArray, List.set_cons_zero, List.set_cons_succ]
            refine wpAnyH_ready (rs := [19]) (by kernel_rfl) (by decide) ?_
            refine AllReadyH.cons (o := { dst := some 5, op := Go.Op.alloc 31, type := 0, pos := "laws.go:584", after := #[], guard := none }) rfl (fun K hK => ?_) AllReadyH.nil
            go_simp
            obtain ⟨w4, hw4⟩ : ∃ W, wd.alloc (.cells #[.int .i64 0, .int .i64 0, .int .i64 0, .string ⟨#[]⟩, .int .i64 0] 31) = W := ⟨_, rfl⟩
            have HV4 : Hid (Blk w4 wd.heap.size [.int .i64 0, .int .i64 0, .int .i64 0, .string ⟨#[]⟩, .int .i64 0] 31) := by rw [← hw4]; exact blk_new wd _ _
            have HX4 : Hid (Below wd.heap.size wd w4) := by rw [← hw4]; exact below_one _ _
            have HB4 : Hid (Below w.heap.size w w4) := HBd.out.trans (HX4.out.mono HBd.out.size)
            have HS4 : Hid (w4.cell? ⟨w.heap.size, 0, none⟩ = some (.int .i64 zv)) := HSB.out w4 HX4.out
            rw [show wd.alloc (Obj.cells #[Value.int .i64 0, Value.int .i64 0, Value.int .i64 0, Value.string ⟨#[]⟩, Value.int .i64 0] 31) = w4 from hw4]
            clear hw4
            refine hK.out _ _ (HS4.out) (fun hHeld => ?_)
            clear hK K
            try simp only [Act.put, List.setIfInBounds_toArray, List.set_cons_zero, List.set_cons_succ]
            refine wpAnyH_ready (rs := [20]) (by kernel_rfl) (by decide) ?_
            refine AllReadyH.cons (o := { dst := none, op := Go.Op.store 31 (Go.Operand.tmp 5) (Go.Operand.tmp 48), type := 0, pos := "laws.go:584", after := #[{ on := 19, ground := Go.Ground.data }, { on := 18, ground := Go.Ground.data }, { on := 13, ground := Go.Ground.chain }, { on := 0, ground := Go.Ground.phase }, { on := 1, ground := Go.Ground.phase }, { on := 2, ground := Go.Ground.phase }, { on := 3, ground := Go.Ground.phase }, { on := 4, ground := Go.Ground.phase }, { on := 5, ground := Go.Ground.phase }, { on := 6, ground := Go.Ground.phase }, { on := 7, ground := Go.Ground.phase }, { on := 8, ground := Go.Ground.phase }, { on := 9, ground := Go.Ground.phase }, { on := 10, ground := Go.Ground.phase }, { on := 11, ground := Go.Ground.phase }, { on := 12, ground := Go.Ground.phase }, { on := 13, ground := Go.Ground.phase }, { on := 14, ground := Go.Ground.phase }, { on := 15, ground := Go.Ground.phase }, { on := 16, ground := Go.Ground.phase }, { on := 17, ground := Go.Ground.phase }, { on := 18, ground := Go.Ground.phase }, { on := 19, ground := Go.Ground.phase }], guard := none }) rfl (fun K hK => ?_) AllReadyH.nil
            clear kA0 kA1 kA2
            have p0 := HV4.out.cell 0 rfl
            have p1 := HV4.out.cell 1 rfl
            have p2 := HV4.out.cell 2 rfl
            have p3 := HV4.out.cell 3 rfl
            have p4 := HV4.out.cell 4 rfl
            have pf := fun j => HV4.out.frozen j
            have HV5 : Hid (Blk (((((w4.setCell ⟨wd.heap.size, 0, none⟩ (Value.int .i64 (1 + m0))).setCell ⟨wd.heap.size, 1, none⟩ (Value.int .i64 m1)).setCell ⟨wd.heap.size, 2, none⟩ (Value.int .i64 (1 + m2))).setCell ⟨wd.heap.size, 3, none⟩ (Value.string ⟨#[]⟩)).setCell ⟨wd.heap.size, 4, none⟩ (Value.int .i64 zv)) wd.heap.size [.int .i64 (1 + m0), .int .i64 m1, .int .i64 (1 + m2), .string ⟨#[]⟩, .int .i64 zv] 31) := (((((HV4.out.set 0 (.int .i64 (1 + m0))).set 1 (.int .i64 m1)).set 2 (.int .i64 (1 + m2))).set 3 (.string ⟨#[]⟩)).set 4 (.int .i64 zv))
            have HX5 : Hid (Below wd.heap.size wd (((((w4.setCell ⟨wd.heap.size, 0, none⟩ (Value.int .i64 (1 + m0))).setCell ⟨wd.heap.size, 1, none⟩ (Value.int .i64 m1)).setCell ⟨wd.heap.size, 2, none⟩ (Value.int .i64 (1 + m2))).setCell ⟨wd.heap.size, 3, none⟩ (Value.string ⟨#[]⟩)).setCell ⟨wd.heap.size, 4, none⟩ (Value.int .i64 zv))) := (((((HX4.out.setCell (p := ⟨wd.heap.size, 0, none⟩) (Nat.le_refl _) (.int .i64 (1 + m0))).setCell (p := ⟨wd.heap.size, 1, none⟩) (Nat.le_refl _) (.int .i64 m1)).setCell (p := ⟨wd.heap.size, 2, none⟩) (Nat.le_refl _) (.int .i64 (1 + m2))).setCell (p := ⟨wd.heap.size, 3, none⟩) (Nat.le_refl _) (.string ⟨#[]⟩)).setCell (p := ⟨wd.heap.size, 4, none⟩) (Nat.le_refl _) (.int .i64 zv))
            have HS5 : Hid ((((((w4.setCell ⟨wd.heap.size, 0, none⟩ (Value.int .i64 (1 + m0))).setCell ⟨wd.heap.size, 1, none⟩ (Value.int .i64 m1)).setCell ⟨wd.heap.size, 2, none⟩ (Value.int .i64 (1 + m2))).setCell ⟨wd.heap.size, 3, none⟩ (Value.string ⟨#[]⟩)).setCell ⟨wd.heap.size, 4, none⟩ (Value.int .i64 zv)).cell? ⟨w.heap.size, 0, none⟩ = some (.int .i64 zv)) := HSB.out _ HX5.out
            clear HV4 HX4 HB4 HS4
            go_simp
            clear p0 p1 p2 p3 p4 pf
            generalize (((((w4.setCell ⟨wd.heap.size, 0, none⟩ (Value.int .i64 (1 + m0))).setCell ⟨wd.heap.size, 1, none⟩ (Value.int .i64 m1)).setCell ⟨wd.heap.size, 2, none⟩ (Value.int .i64 (1 + m2))).setCell ⟨wd.heap.size, 3, none⟩ (Value.string ⟨#[]⟩)).setCell ⟨wd.heap.size, 4, none⟩ (Value.int .i64 zv)) = w5 at *
            refine hK.out _ _ (HS5.out) (fun hHeld => ?_)
            clear hK K
            try simp only [Act.put, List.setIfInBounds_toArray, List.set_cons_zero, List.set_cons_succ]
            refine wpAnyH_done (by kernel_rfl) ?_ _
            clear hHeld HSB HS5
            go_wp2_with fail
            go_meet
            exact ⟨⟨1 + m0, m1, 1 + m2, ⟨#[]⟩, zv⟩, rfl, HV5, HXd.out.trans (HX5.out.mono hle)⟩
          · go_simp
            obtain ⟨w4, hw4⟩ : ∃ W, wd.alloc (.cells #[.int .i64 0, .int .i64 0, .int .i64 0, .string ⟨#[]⟩, .int .i64 0] 31) = W := ⟨_, rfl⟩
            have HV4 : Hid (Blk w4 wd.heap.size [.int .i64 0, .int .i64 0, .int .i64 0, .string ⟨#[]⟩, .int .i64 0] 31) := by rw [← hw4]; exact blk_new wd _ _
            have HX4 : Hid (Below wd.heap.size wd w4) := by rw [← hw4]; exact below_one _ _
            have HB4 : Hid (Below w.heap.size w w4) := HBd.out.trans (HX4.out.mono HBd.out.size)
            have HS4 : Hid (w4.cell? ⟨w.heap.size, 0, none⟩ = some (.int .i64 zv)) := HSB.out w4 HX4.out
            rw [show wd.alloc (Obj.cells #[Value.int .i64 0, Value.int .i64 0, Value.int .i64 0, Value.string ⟨#[]⟩, Value.int .i64 0] 31) = w4 from hw4]
            clear hw4
            refine hK.out _ _ (HS4.out) (fun hHeld => ?_)
            clear hK K
            try simp only [Act.put, List.setIfInBounds_toArray, List.set_cons_zero, List.set_cons_succ]
            refine wpAnyH_ready (rs := [13]) (by kernel_rfl) (by decide) ?_
            refine AllReadyH.cons (o := { dst := some 43, op := Go.Op.call { callee := Go.Callee.value (Go.Operand.func 12), args := #[Go.Operand.tmp 40, Go.Operand.tmp 42], argTypes := #[22, 3] }, type := 3, pos := "laws.go:584", after := #[{ on := 10, ground := Go.Ground.data }, { on := 12, ground := Go.Ground.data }, { on := 8, ground := Go.Ground.chain }], guard := none }) rfl (fun K hK => ?_) AllReadyH.nil
            go_simp
            refine (kA2 _ HB4.out).mono ?_
            rintro e wx ⟨rfl, hwx⟩
            rw [hwx]
            clear hwx wx
            refine hK.out _ _ (HS4.out) (fun hHeld => ?_)
            clear hK K
            try simp only [Act.put, List.setIfInBounds_toArray, List.set_cons_zero, List.set_cons_succ]
            refine wpAnyH_take (i := 14) (oi := { dst := some 44, op := Go.Op.binOp Go.BinOp.rem 3 (Go.Operand.tmp 43) (Go.Operand.const (Go.Value.int Go.IntKind.i64 2)) 3, type := 3, pos := "laws.go:584", after := #[{ on := 13, ground := Go.Ground.data }], guard := none }) (v := ?_) rfl (by kernel_rfl) (by kernel_rfl) (by kernel_rfl) (fun _ _ _ h => h) (Or.inl ⟨by rfl, ?_⟩) hHeld ?_
            rotate_left
            · intro w hSw
              try dsimp only at hSw
              go_simp
              try (with_reducible rfl)
            simp only [Act.put, List.setIfInBounds_toArray, List.set_cons_zero, List.set_cons_succ]
            refine wpAnyH_take (i := 15) (oi := { dst := some 45, op := Go.Op.binOp Go.BinOp.add 3 (Go.Operand.const (Go.Value.int Go.IntKind.i64 1)) (Go.Operand.tmp 44) 3, type := 3, pos := "laws.go:584", after := #[{ on := 14, ground := Go.Ground.data }], guard := none }) (v := ?_) rfl (by kernel_rfl) (by kernel_rfl) (by kernel_rfl) (fun _ _ _ h => h) (Or.inl ⟨by rfl, ?_⟩) hHeld ?_
            rotate_left
            · intro w hSw
              try dsimp only at hSw
              go_simp
              try (with_reducible rfl)
            simp only [Act.put, List.setIfInBounds_toArray, List.set_cons_zero, List.set_cons_succ]
            refine wpAnyH_take (i := 18) (oi := { dst := some 48, op := Go.Op.build 31 #[(0, Go.Operand.tmp 34), (1, Go.Operand.tmp 39), (2, Go.Operand.tmp 45), (4, Go.Operand.tmp 47)], type := 31, pos := "laws.go:584", after := #[{ on := 4, ground := Go.Ground.data }, { on := 9, ground := Go.Ground.data }, { on := 15, ground := Go.Ground.data }, { on := 17, ground := Go.Ground.data }], guard := none }) (v := ?_) rfl (by kernel_rfl) (by kernel_rfl) (by kernel_rfl) (fun _ _ _ h => h) (Or.inl ⟨by rfl, ?_⟩) hHeld ?_
            rotate_left
            · intro w hSw
              try dsimp only at hSw
              go_simp
              try (with_reducible rfl)
            simp only [Act.put, List.setIfInBounds_toArray, List.set_cons_zero, List.set_cons_succ]
            refine wpAnyH_ready (rs := [20]) (by kernel_rfl) (by decide) ?_
            refine AllReadyH.cons (o := { dst := none, op := Go.Op.store 31 (Go.Operand.tmp 5) (Go.Operand.tmp 48), type := 0, pos := "laws.go:584", after := #[{ on := 19, ground := Go.Ground.data }, { on := 18, ground := Go.Ground.data }, { on := 13, ground := Go.Ground.chain }, { on := 0, ground := Go.Ground.phase }, { on := 1, ground := Go.Ground.phase }, { on := 2, ground := Go.Ground.phase }, { on := 3, ground := Go.Ground.phase }, { on := 4, ground := Go.Ground.phase }, { on := 5, ground := Go.Ground.phase }, { on := 6, ground := Go.Ground.phase }, { on := 7, ground := Go.Ground.phase }, { on := 8, ground := Go.Ground.phase }, { on := 9, ground := Go.Ground.phase }, { on := 10, ground := Go.Ground.phase }, { on := 11, ground := Go.Ground.phase }, { on := 12, ground := Go.Ground.phase }, { on := 13, ground := Go.Ground.phase }, { on := 14, ground := Go.Ground.phase }, { on := 15, ground := Go.Ground.phase }, { on := 16, ground := Go.Ground.phase }, { on := 17, ground := Go.Ground.phase }, { on := 18, ground := Go.Ground.phase }, { on := 19, ground := Go.Ground.phase }], guard := none }) rfl (fun K hK => ?_) AllReadyH.nil
            clear kA0 kA1 kA2
            have p0 := HV4.out.cell 0 rfl
            have p1 := HV4.out.cell 1 rfl
            have p2 := HV4.out.cell 2 rfl
            have p3 := HV4.out.cell 3 rfl
            have p4 := HV4.out.cell 4 rfl
            have pf := fun j => HV4.out.frozen j
            have HV5 : Hid (Blk (((((w4.setCell ⟨wd.heap.size, 0, none⟩ (Value.int .i64 (1 + m0))).setCell ⟨wd.heap.size, 1, none⟩ (Value.int .i64 m1)).setCell ⟨wd.heap.size, 2, none⟩ (Value.int .i64 (1 + m2))).setCell ⟨wd.heap.size, 3, none⟩ (Value.string ⟨#[]⟩)).setCell ⟨wd.heap.size, 4, none⟩ (Value.int .i64 zv)) wd.heap.size [.int .i64 (1 + m0), .int .i64 m1, .int .i64 (1 + m2), .string ⟨#[]⟩, .int .i64 zv] 31) := (((((HV4.out.set 0 (.int .i64 (1 + m0))).set 1 (.int .i64 m1)).set 2 (.int .i64 (1 + m2))).set 3 (.string ⟨#[]⟩)).set 4 (.int .i64 zv))
            have HX5 : Hid (Below wd.heap.size wd (((((w4.setCell ⟨wd.heap.size, 0, none⟩ (Value.int .i64 (1 + m0))).setCell ⟨wd.heap.size, 1, none⟩ (Value.int .i64 m1)).setCell ⟨wd.heap.size, 2, none⟩ (Value.int .i64 (1 + m2))).setCell ⟨wd.heap.size, 3, none⟩ (Value.string ⟨#[]⟩)).setCell ⟨wd.heap.size, 4, none⟩ (Value.int .i64 zv))) := (((((HX4.out.setCell (p := ⟨wd.heap.size, 0, none⟩) (Nat.le_refl _) (.int .i64 (1 + m0))).setCell (p := ⟨wd.heap.size, 1, none⟩) (Nat.le_refl _) (.int .i64 m1)).setCell (p := ⟨wd.heap.size, 2, none⟩) (Nat.le_refl _) (.int .i64 (1 + m2))).setCell (p := ⟨wd.heap.size, 3, none⟩) (Nat.le_refl _) (.string ⟨#[]⟩)).setCell (p := ⟨wd.heap.size, 4, none⟩) (Nat.le_refl _) (.int .i64 zv))
            have HS5 : Hid ((((((w4.setCell ⟨wd.heap.size, 0, none⟩ (Value.int .i64 (1 + m0))).setCell ⟨wd.heap.size, 1, none⟩ (Value.int .i64 m1)).setCell ⟨wd.heap.size, 2, none⟩ (Value.int .i64 (1 + m2))).setCell ⟨wd.heap.size, 3, none⟩ (Value.string ⟨#[]⟩)).setCell ⟨wd.heap.size, 4, none⟩ (Value.int .i64 zv)).cell? ⟨w.heap.size, 0, none⟩ = some (.int .i64 zv)) := HSB.out _ HX5.out
            clear HV4 HX4 HB4 HS4
            go_simp
            clear p0 p1 p2 p3 p4 pf
            generalize (((((w4.setCell ⟨wd.heap.size, 0, none⟩ (Value.int .i64 (1 + m0))).setCell ⟨wd.heap.size, 1, none⟩ (Value.int .i64 m1)).setCell ⟨wd.heap.size, 2, none⟩ (Value.int .i64 (1 + m2))).setCell ⟨wd.heap.size, 3, none⟩ (Value.string ⟨#[]⟩)).setCell ⟨wd.heap.size, 4, none⟩ (Value.int .i64 zv)) = w5 at *
            refine hK.out _ _ (HS5.out) (fun hHeld => ?_)
            clear hK K
            try simp only [Act.put, List.setIfInBounds_toArray, List.set_cons_zero, List.set_cons_succ]
            refine wpAnyH_done (by kernel_rfl) ?_ _
            clear hHeld HSB HS5
            go_wp2_with fail
            go_meet
            exact ⟨⟨1 + m0, m1, 1 + m2, ⟨#[]⟩, zv⟩, rfl, HV5, HXd.out.trans (HX5.out.mono hle)⟩
        · go_simp
          obtain ⟨w4, hw4⟩ : ∃ W, wd.alloc (.cells #[.int .i64 0, .int .i64 0, .int .i64 0, .string ⟨#[]⟩, .int .i64 0] 31) = W := ⟨_, rfl⟩
          have HV4 : Hid (Blk w4 wd.heap.size [.int .i64 0, .int .i64 0, .int .i64 0, .string ⟨#[]⟩, .int .i64 0] 31) := by rw [← hw4]; exact blk_new wd _ _
          have HX4 : Hid (Below wd.heap.size wd w4) := by rw [← hw4]; exact below_one _ _
          have HB4 : Hid (Below w.heap.size w w4) := HBd.out.trans (HX4.out.mono HBd.out.size)
          have HS4 : Hid (w4.cell? ⟨w.heap.size, 0, none⟩ = some (.int .i64 zv)) := HSB.out w4 HX4.out
          rw [show wd.alloc (Obj.cells #[Value.int .i64 0, Value.int .i64 0, Value.int .i64 0, Value.string ⟨#[]⟩, Value.int .i64 0] 31) = w4 from hw4]
          clear hw4
          refine hK.out _ _ (HS4.out) (fun hHeld => ?_)
          clear hK K
          try simp only [Act.put, List.setIfInBounds_toArray, List.set_cons_zero, List.set_cons_succ]
          refine wpAnyH_ready (rs := [8]) (by kernel_rfl) (by decide) ?_
          refine AllReadyH.cons (o := { dst := some 38, op := Go.Op.call { callee := Go.Callee.value (Go.Operand.func 12), args := #[Go.Operand.tmp 35, Go.Operand.tmp 37], argTypes := #[22, 3] }, type := 3, pos := "laws.go:584", after := #[{ on := 5, ground := Go.Ground.data }, { on := 7, ground := Go.Ground.data }, { on := 2, ground := Go.Ground.chain }], guard := none }) rfl (fun K hK => ?_) AllReadyH.nil
          go_simp
          refine (kA1 _ HB4.out).mono ?_
          rintro e wx ⟨rfl, hwx⟩
          rw [hwx]
          clear hwx wx
          refine hK.out _ _ (HS4.out) (fun hHeld => ?_)
          clear hK K
          try simp only [Act.put, List.setIfInBounds_toArray, List.set_cons_zero, List.set_cons_succ]
          refine wpAnyH_take (i := 9) (oi := { dst := some 39, op := Go.Op.binOp Go.BinOp.rem 3 (Go.Operand.tmp 38) (Go.Operand.const (Go.Value.int Go.IntKind.i64 2)) 3, type := 3, pos := "laws.go:584", after := #[{ on := 8, ground := Go.Ground.data }], guard := none }) (v := ?_) rfl (by kernel_rfl) (by kernel_rfl) (by kernel_rfl) (fun _ _ _ h => h) (Or.inl ⟨by rfl, ?_⟩) hHeld ?_
          rotate_left
          · intro w hSw
            try dsimp only at hSw
            go_simp
            try (with_reducible rfl)
          simp only [Act.put, List.setIfInBounds_toArray, List.set_cons_zero, List.set_cons_succ]
          refine wpAnyH_ready (rs := [13]) (by kernel_rfl) (by decide) ?_
          refine AllReadyH.cons (o := { dst := some 43, op := Go.Op.call { callee := Go.Callee.value (Go.Operand.func 12), args := #[Go.Operand.tmp 40, Go.Operand.tmp 42], argTypes := #[22, 3] }, type := 3, pos := "laws.go:584", after := #[{ on := 10, ground := Go.Ground.data }, { on := 12, ground := Go.Ground.data }, { on := 8, ground := Go.Ground.chain }], guard := none }) rfl (fun K hK => ?_) AllReadyH.nil
          go_simp
          refine (kA2 _ HB4.out).mono ?_
          rintro e wx ⟨rfl, hwx⟩
          rw [hwx]
          clear hwx wx
          refine hK.out _ _ (HS4.out) (fun hHeld => ?_)
          clear hK K
          try simp only [Act.put, List.setIfInBounds_toArray, List.set_cons_zero, List.set_cons_succ]
          refine wpAnyH_take (i := 14) (oi := { dst := some 44, op := Go.Op.binOp Go.BinOp.rem 3 (Go.Operand.tmp 43) (Go.Operand.const (Go.Value.int Go.IntKind.i64 2)) 3, type := 3, pos := "laws.go:584", after := #[{ on := 13, ground := Go.Ground.data }], guard := none }) (v := ?_) rfl (by kernel_rfl) (by kernel_rfl) (by kernel_rfl) (fun _ _ _ h => h) (Or.inl ⟨by rfl, ?_⟩) hHeld ?_
          rotate_left
          · intro w hSw
            try dsimp only at hSw
            go_simp
            try (with_reducible rfl)
          simp only [Act.put, List.setIfInBounds_toArray, List.set_cons_zero, List.set_cons_succ]
          refine wpAnyH_take (i := 15) (oi := { dst := some 45, op := Go.Op.binOp Go.BinOp.add 3 (Go.Operand.const (Go.Value.int Go.IntKind.i64 1)) (Go.Operand.tmp 44) 3, type := 3, pos := "laws.go:584", after := #[{ on := 14, ground := Go.Ground.data }], guard := none }) (v := ?_) rfl (by kernel_rfl) (by kernel_rfl) (by kernel_rfl) (fun _ _ _ h => h) (Or.inl ⟨by rfl, ?_⟩) hHeld ?_
          rotate_left
          · intro w hSw
            try dsimp only at hSw
            go_simp
            try (with_reducible rfl)
          simp only [Act.put, List.setIfInBounds_toArray, List.set_cons_zero, List.set_cons_succ]
          refine wpAnyH_take (i := 18) (oi := { dst := some 48, op := Go.Op.build 31 #[(0, Go.Operand.tmp 34), (1, Go.Operand.tmp 39), (2, Go.Operand.tmp 45), (4, Go.Operand.tmp 47)], type := 31, pos := "laws.go:584", after := #[{ on := 4, ground := Go.Ground.data }, { on := 9, ground := Go.Ground.data }, { on := 15, ground := Go.Ground.data }, { on := 17, ground := Go.Ground.data }], guard := none }) (v := ?_) rfl (by kernel_rfl) (by kernel_rfl) (by kernel_rfl) (fun _ _ _ h => h) (Or.inl ⟨by rfl, ?_⟩) hHeld ?_
          rotate_left
          · intro w hSw
            try dsimp only at hSw
            go_simp
            try (with_reducible rfl)
          simp only [Act.put, List.setIfInBounds_toArray, List.set_cons_zero, List.set_cons_succ]
          refine wpAnyH_ready (rs := [20]) (by kernel_rfl) (by decide) ?_
          refine AllReadyH.cons (o := { dst := none, op := Go.Op.store 31 (Go.Operand.tmp 5) (Go.Operand.tmp 48), type := 0, pos := "laws.go:584", after := #[{ on := 19, ground := Go.Ground.data }, { on := 18, ground := Go.Ground.data }, { on := 13, ground := Go.Ground.chain }, { on := 0, ground := Go.Ground.phase }, { on := 1, ground := Go.Ground.phase }, { on := 2, ground := Go.Ground.phase }, { on := 3, ground := Go.Ground.phase }, { on := 4, ground := Go.Ground.phase }, { on := 5, ground := Go.Ground.phase }, { on := 6, ground := Go.Ground.phase }, { on := 7, ground := Go.Ground.phase }, { on := 8, ground := Go.Ground.phase }, { on := 9, ground := Go.Ground.phase }, { on := 10, ground := Go.Ground.phase }, { on := 11, ground := Go.Ground.phase }, { on := 12, ground := Go.Ground.phase }, { on := 13, ground := Go.Ground.phase }, { on := 14, ground := Go.Ground.phase }, { on := 15, ground := Go.Ground.phase }, { on := 16, ground := Go.Ground.phase }, { on := 17, ground := Go.Ground.phase }, { on := 18, ground := Go.Ground.phase }, { on := 19, ground := Go.Ground.phase }], guard := none }) rfl (fun K hK => ?_) AllReadyH.nil
          clear kA0 kA1 kA2
          have p0 := HV4.out.cell 0 rfl
          have p1 := HV4.out.cell 1 rfl
          have p2 := HV4.out.cell 2 rfl
          have p3 := HV4.out.cell 3 rfl
          have p4 := HV4.out.cell 4 rfl
          have pf := fun j => HV4.out.frozen j
          have HV5 : Hid (Blk (((((w4.setCell ⟨wd.heap.size, 0, none⟩ (Value.int .i64 (1 + m0))).setCell ⟨wd.heap.size, 1, none⟩ (Value.int .i64 m1)).setCell ⟨wd.heap.size, 2, none⟩ (Value.int .i64 (1 + m2))).setCell ⟨wd.heap.size, 3, none⟩ (Value.string ⟨#[]⟩)).setCell ⟨wd.heap.size, 4, none⟩ (Value.int .i64 zv)) wd.heap.size [.int .i64 (1 + m0), .int .i64 m1, .int .i64 (1 + m2), .string ⟨#[]⟩, .int .i64 zv] 31) := (((((HV4.out.set 0 (.int .i64 (1 + m0))).set 1 (.int .i64 m1)).set 2 (.int .i64 (1 + m2))).set 3 (.string ⟨#[]⟩)).set 4 (.int .i64 zv))
          have HX5 : Hid (Below wd.heap.size wd (((((w4.setCell ⟨wd.heap.size, 0, none⟩ (Value.int .i64 (1 + m0))).setCell ⟨wd.heap.size, 1, none⟩ (Value.int .i64 m1)).setCell ⟨wd.heap.size, 2, none⟩ (Value.int .i64 (1 + m2))).setCell ⟨wd.heap.size, 3, none⟩ (Value.string ⟨#[]⟩)).setCell ⟨wd.heap.size, 4, none⟩ (Value.int .i64 zv))) := (((((HX4.out.setCell (p := ⟨wd.heap.size, 0, none⟩) (Nat.le_refl _) (.int .i64 (1 + m0))).setCell (p := ⟨wd.heap.size, 1, none⟩) (Nat.le_refl _) (.int .i64 m1)).setCell (p := ⟨wd.heap.size, 2, none⟩) (Nat.le_refl _) (.int .i64 (1 + m2))).setCell (p := ⟨wd.heap.size, 3, none⟩) (Nat.le_refl _) (.string ⟨#[]⟩)).setCell (p := ⟨wd.heap.size, 4, none⟩) (Nat.le_refl _) (.int .i64 zv))
          have HS5 : Hid ((((((w4.setCell ⟨wd.heap.size, 0, none⟩ (Value.int .i64 (1 + m0))).setCell ⟨wd.heap.size, 1, none⟩ (Value.int .i64 m1)).setCell ⟨wd.heap.size, 2, none⟩ (Value.int .i64 (1 + m2))).setCell ⟨wd.heap.size, 3, none⟩ (Value.string ⟨#[]⟩)).setCell ⟨wd.heap.size, 4, none⟩ (Value.int .i64 zv)).cell? ⟨w.heap.size, 0, none⟩ = some (.int .i64 zv)) := HSB.out _ HX5.out
          clear HV4 HX4 HB4 HS4
          go_simp
          clear p0 p1 p2 p3 p4 pf
          generalize (((((w4.setCell ⟨wd.heap.size, 0, none⟩ (Value.int .i64 (1 + m0))).setCell ⟨wd.heap.size, 1, none⟩ (Value.int .i64 m1)).setCell ⟨wd.heap.size, 2, none⟩ (Value.int .i64 (1 + m2))).setCell ⟨wd.heap.size, 3, none⟩ (Value.string ⟨#[]⟩)).setCell ⟨wd.heap.size, 4, none⟩ (Value.int .i64 zv)) = w5 at *
          refine hK.out _ _ (HS5.out) (fun hHeld => ?_)
          clear hK K
          try simp only [Act.put, List.setIfInBounds_toArray, List.set_cons_zero, List.set_cons_succ]
          refine wpAnyH_done (by kernel_rfl) ?_ _
          clear hHeld HSB HS5
          go_wp2_with fail
          go_meet
          exact ⟨⟨1 + m0, m1, 1 + m2, ⟨#[]⟩, zv⟩, rfl, HV5, HXd.out.trans (HX5.out.mono hle)⟩
      · go_simp
        obtain ⟨w4, hw4⟩ : ∃ W, wd.alloc (.cells #[.int .i64 0, .int .i64 0, .int .i64 0, .string ⟨#[]⟩, .int .i64 0] 31) = W := ⟨_, rfl⟩
        have HV4 : Hid (Blk w4 wd.heap.size [.int .i64 0, .int .i64 0, .int .i64 0, .string ⟨#[]⟩, .int .i64 0] 31) := by rw [← hw4]; exact blk_new wd _ _
        have HX4 : Hid (Below wd.heap.size wd w4) := by rw [← hw4]; exact below_one _ _
        have HB4 : Hid (Below w.heap.size w w4) := HBd.out.trans (HX4.out.mono HBd.out.size)
        have HS4 : Hid (w4.cell? ⟨w.heap.size, 0, none⟩ = some (.int .i64 zv)) := HSB.out w4 HX4.out
        rw [show wd.alloc (Obj.cells #[Value.int .i64 0, Value.int .i64 0, Value.int .i64 0, Value.string ⟨#[]⟩, Value.int .i64 0] 31) = w4 from hw4]
        clear hw4
        refine hK.out _ _ (HS4.out) (fun hHeld => ?_)
        clear hK K
        try simp only [Act.put, List.setIfInBounds_toArray, List.set_cons_zero, List.set_cons_succ]
        refine wpAnyH_ready (rs := [2]) (by kernel_rfl) (by decide) ?_
        refine AllReadyH.cons (o := { dst := some 32, op := Go.Op.call { callee := Go.Callee.value (Go.Operand.func 12), args := #[Go.Operand.tmp 30, Go.Operand.tmp 31], argTypes := #[22, 3] }, type := 3, pos := "laws.go:584", after := #[{ on := 0, ground := Go.Ground.data }, { on := 1, ground := Go.Ground.data }], guard := none }) rfl (fun K hK => ?_) AllReadyH.nil
        go_simp
        refine (kA0 _ HB4.out).mono ?_
        rintro e wx ⟨rfl, hwx⟩
        rw [hwx]
        clear hwx wx
        refine hK.out _ _ (HS4.out) (fun hHeld => ?_)
        clear hK K
        try simp only [Act.put, List.setIfInBounds_toArray, List.set_cons_zero, List.set_cons_succ]
        refine wpAnyH_take (i := 3) (oi := { dst := some 33, op := Go.Op.binOp Go.BinOp.rem 3 (Go.Operand.tmp 32) (Go.Operand.const (Go.Value.int Go.IntKind.i64 3)) 3, type := 3, pos := "laws.go:584", after := #[{ on := 2, ground := Go.Ground.data }], guard := none }) (v := ?_) rfl (by kernel_rfl) (by kernel_rfl) (by kernel_rfl) (fun _ _ _ h => h) (Or.inl ⟨by rfl, ?_⟩) hHeld ?_
        rotate_left
        · intro w hSw
          try dsimp only at hSw
          go_simp
          try (with_reducible rfl)
        simp only [Act.put, List.setIfInBounds_toArray, List.set_cons_zero, List.set_cons_succ]
        refine wpAnyH_take (i := 4) (oi := { dst := some 34, op := Go.Op.binOp Go.BinOp.add 3 (Go.Operand.const (Go.Value.int Go.IntKind.i64 1)) (Go.Operand.tmp 33) 3, type := 3, pos := "laws.go:584", after := #[{ on := 3, ground := Go.Ground.data }], guard := none }) (v := ?_) rfl (by kernel_rfl) (by kernel_rfl) (by kernel_rfl) (fun _ _ _ h => h) (Or.inl ⟨by rfl, ?_⟩) hHeld ?_
        rotate_left
        · intro w hSw
          try dsimp only at hSw
          go_simp
          try (with_reducible rfl)
        simp only [Act.put, List.setIfInBounds_toArray, List.set_cons_zero, List.set_cons_succ]
        refine wpAnyH_ready (rs := [8]) (by kernel_rfl) (by decide) ?_
        refine AllReadyH.cons (o := { dst := some 38, op := Go.Op.call { callee := Go.Callee.value (Go.Operand.func 12), args := #[Go.Operand.tmp 35, Go.Operand.tmp 37], argTypes := #[22, 3] }, type := 3, pos := "laws.go:584", after := #[{ on := 5, ground := Go.Ground.data }, { on := 7, ground := Go.Ground.data }, { on := 2, ground := Go.Ground.chain }], guard := none }) rfl (fun K hK => ?_) AllReadyH.nil
        go_simp
        refine (kA1 _ HB4.out).mono ?_
        rintro e wx ⟨rfl, hwx⟩
        rw [hwx]
        clear hwx wx
        refine hK.out _ _ (HS4.out) (fun hHeld => ?_)
        clear hK K
        try simp only [Act.put, List.setIfInBounds_toArray, List.set_cons_zero, List.set_cons_succ]
        refine wpAnyH_take (i := 9) (oi := { dst := some 39, op := Go.Op.binOp Go.BinOp.rem 3 (Go.Operand.tmp 38) (Go.Operand.const (Go.Value.int Go.IntKind.i64 2)) 3, type := 3, pos := "laws.go:584", after := #[{ on := 8, ground := Go.Ground.data }], guard := none }) (v := ?_) rfl (by kernel_rfl) (by kernel_rfl) (by kernel_rfl) (fun _ _ _ h => h) (Or.inl ⟨by rfl, ?_⟩) hHeld ?_
        rotate_left
        · intro w hSw
          try dsimp only at hSw
          go_simp
          try (with_reducible rfl)
        simp only [Act.put, List.setIfInBounds_toArray, List.set_cons_zero, List.set_cons_succ]
        refine wpAnyH_ready (rs := [13]) (by kernel_rfl) (by decide) ?_
        refine AllReadyH.cons (o := { dst := some 43, op := Go.Op.call { callee := Go.Callee.value (Go.Operand.func 12), args := #[Go.Operand.tmp 40, Go.Operand.tmp 42], argTypes := #[22, 3] }, type := 3, pos := "laws.go:584", after := #[{ on := 10, ground := Go.Ground.data }, { on := 12, ground := Go.Ground.data }, { on := 8, ground := Go.Ground.chain }], guard := none }) rfl (fun K hK => ?_) AllReadyH.nil
        go_simp
        refine (kA2 _ HB4.out).mono ?_
        rintro e wx ⟨rfl, hwx⟩
        rw [hwx]
        clear hwx wx
        refine hK.out _ _ (HS4.out) (fun hHeld => ?_)
        clear hK K
        try simp only [Act.put, List.setIfInBounds_toArray, List.set_cons_zero, List.set_cons_succ]
        refine wpAnyH_take (i := 14) (oi := { dst := some 44, op := Go.Op.binOp Go.BinOp.rem 3 (Go.Operand.tmp 43) (Go.Operand.const (Go.Value.int Go.IntKind.i64 2)) 3, type := 3, pos := "laws.go:584", after := #[{ on := 13, ground := Go.Ground.data }], guard := none }) (v := ?_) rfl (by kernel_rfl) (by kernel_rfl) (by kernel_rfl) (fun _ _ _ h => h) (Or.inl ⟨by rfl, ?_⟩) hHeld ?_
        rotate_left
        · intro w hSw
          try dsimp only at hSw
          go_simp
          try (with_reducible rfl)
        simp only [Act.put, List.setIfInBounds_toArray, List.set_cons_zero, List.set_cons_succ]
        refine wpAnyH_take (i := 15) (oi := { dst := some 45, op := Go.Op.binOp Go.BinOp.add 3 (Go.Operand.const (Go.Value.int Go.IntKind.i64 1)) (Go.Operand.tmp 44) 3, type := 3, pos := "laws.go:584", after := #[{ on := 14, ground := Go.Ground.data }], guard := none }) (v := ?_) rfl (by kernel_rfl) (by kernel_rfl) (by kernel_rfl) (fun _ _ _ h => h) (Or.inl ⟨by rfl, ?_⟩) hHeld ?_
        rotate_left
        · intro w hSw
          try dsimp only at hSw
          go_simp
          try (with_reducible rfl)
        simp only [Act.put, List.setIfInBounds_toArray, List.set_cons_zero, List.set_cons_succ]
        refine wpAnyH_take (i := 18) (oi := { dst := some 48, op := Go.Op.build 31 #[(0, Go.Operand.tmp 34), (1, Go.Operand.tmp 39), (2, Go.Operand.tmp 45), (4, Go.Operand.tmp 47)], type := 31, pos := "laws.go:584", after := #[{ on := 4, ground := Go.Ground.data }, { on := 9, ground := Go.Ground.data }, { on := 15, ground := Go.Ground.data }, { on := 17, ground := Go.Ground.data }], guard := none }) (v := ?_) rfl (by kernel_rfl) (by kernel_rfl) (by kernel_rfl) (fun _ _ _ h => h) (Or.inl ⟨by rfl, ?_⟩) hHeld ?_
        rotate_left
        · intro w hSw
          try dsimp only at hSw
          go_simp
          try (with_reducible rfl)
        simp only [Act.put, List.setIfInBounds_toArray, List.set_cons_zero, List.set_cons_succ]
        refine wpAnyH_ready (rs := [20]) (by kernel_rfl) (by decide) ?_
        refine AllReadyH.cons (o := { dst := none, op := Go.Op.store 31 (Go.Operand.tmp 5) (Go.Operand.tmp 48), type := 0, pos := "laws.go:584", after := #[{ on := 19, ground := Go.Ground.data }, { on := 18, ground := Go.Ground.data }, { on := 13, ground := Go.Ground.chain }, { on := 0, ground := Go.Ground.phase }, { on := 1, ground := Go.Ground.phase }, { on := 2, ground := Go.Ground.phase }, { on := 3, ground := Go.Ground.phase }, { on := 4, ground := Go.Ground.phase }, { on := 5, ground := Go.Ground.phase }, { on := 6, ground := Go.Ground.phase }, { on := 7, ground := Go.Ground.phase }, { on := 8, ground := Go.Ground.phase }, { on := 9, ground := Go.Ground.phase }, { on := 10, ground := Go.Ground.phase }, { on := 11, ground := Go.Ground.phase }, { on := 12, ground := Go.Ground.phase }, { on := 13, ground := Go.Ground.phase }, { on := 14, ground := Go.Ground.phase }, { on := 15, ground := Go.Ground.phase }, { on := 16, ground := Go.Ground.phase }, { on := 17, ground := Go.Ground.phase }, { on := 18, ground := Go.Ground.phase }, { on := 19, ground := Go.Ground.phase }], guard := none }) rfl (fun K hK => ?_) AllReadyH.nil
        clear kA0 kA1 kA2
        have p0 := HV4.out.cell 0 rfl
        have p1 := HV4.out.cell 1 rfl
        have p2 := HV4.out.cell 2 rfl
        have p3 := HV4.out.cell 3 rfl
        have p4 := HV4.out.cell 4 rfl
        have pf := fun j => HV4.out.frozen j
        have HV5 : Hid (Blk (((((w4.setCell ⟨wd.heap.size, 0, none⟩ (Value.int .i64 (1 + m0))).setCell ⟨wd.heap.size, 1, none⟩ (Value.int .i64 m1)).setCell ⟨wd.heap.size, 2, none⟩ (Value.int .i64 (1 + m2))).setCell ⟨wd.heap.size, 3, none⟩ (Value.string ⟨#[]⟩)).setCell ⟨wd.heap.size, 4, none⟩ (Value.int .i64 zv)) wd.heap.size [.int .i64 (1 + m0), .int .i64 m1, .int .i64 (1 + m2), .string ⟨#[]⟩, .int .i64 zv] 31) := (((((HV4.out.set 0 (.int .i64 (1 + m0))).set 1 (.int .i64 m1)).set 2 (.int .i64 (1 + m2))).set 3 (.string ⟨#[]⟩)).set 4 (.int .i64 zv))
        have HX5 : Hid (Below wd.heap.size wd (((((w4.setCell ⟨wd.heap.size, 0, none⟩ (Value.int .i64 (1 + m0))).setCell ⟨wd.heap.size, 1, none⟩ (Value.int .i64 m1)).setCell ⟨wd.heap.size, 2, none⟩ (Value.int .i64 (1 + m2))).setCell ⟨wd.heap.size, 3, none⟩ (Value.string ⟨#[]⟩)).setCell ⟨wd.heap.size, 4, none⟩ (Value.int .i64 zv))) := (((((HX4.out.setCell (p := ⟨wd.heap.size, 0, none⟩) (Nat.le_refl _) (.int .i64 (1 + m0))).setCell (p := ⟨wd.heap.size, 1, none⟩) (Nat.le_refl _) (.int .i64 m1)).setCell (p := ⟨wd.heap.size, 2, none⟩) (Nat.le_refl _) (.int .i64 (1 + m2))).setCell (p := ⟨wd.heap.size, 3, none⟩) (Nat.le_refl _) (.string ⟨#[]⟩)).setCell (p := ⟨wd.heap.size, 4, none⟩) (Nat.le_refl _) (.int .i64 zv))
        have HS5 : Hid ((((((w4.setCell ⟨wd.heap.size, 0, none⟩ (Value.int .i64 (1 + m0))).setCell ⟨wd.heap.size, 1, none⟩ (Value.int .i64 m1)).setCell ⟨wd.heap.size, 2, none⟩ (Value.int .i64 (1 + m2))).setCell ⟨wd.heap.size, 3, none⟩ (Value.string ⟨#[]⟩)).setCell ⟨wd.heap.size, 4, none⟩ (Value.int .i64 zv)).cell? ⟨w.heap.size, 0, none⟩ = some (.int .i64 zv)) := HSB.out _ HX5.out
        clear HV4 HX4 HB4 HS4
        go_simp
        clear p0 p1 p2 p3 p4 pf
        generalize (((((w4.setCell ⟨wd.heap.size, 0, none⟩ (Value.int .i64 (1 + m0))).setCell ⟨wd.heap.size, 1, none⟩ (Value.int .i64 m1)).setCell ⟨wd.heap.size, 2, none⟩ (Value.int .i64 (1 + m2))).setCell ⟨wd.heap.size, 3, none⟩ (Value.string ⟨#[]⟩)).setCell ⟨wd.heap.size, 4, none⟩ (Value.int .i64 zv)) = w5 at *
        refine hK.out _ _ (HS5.out) (fun hHeld => ?_)
        clear hK K
        try simp only [Act.put, List.setIfInBounds_toArray, List.set_cons_zero, List.set_cons_succ]
        refine wpAnyH_done (by kernel_rfl) ?_ _
        clear hHeld HSB HS5
        go_wp2_with fail
        go_meet
        exact ⟨⟨1 + m0, m1, 1 + m2, ⟨#[]⟩, zv⟩, rfl, HV5, HXd.out.trans (HX5.out.mono hle)⟩
    case rest =>
    clear kA0 kA1 kA2 HBd wi1 wi2 wm0 wm2 hq0 hq1 hq2 ha0 ha1 hc0 hc1 hd0 hd1
    obtain ⟨y, hy5, HV, HX⟩ := hcut
    rename World => w2
    subst hy5
    have HB2 : Hid (Below w.heap.size w w2) := HB.out.trans (HX.out.mono HB.out.size)
    have k3 := fun W hb => at_w (cap := cap) HL.out hlen (i + 3) (by omega) ((i : Int) + 3) (by omega) W hb
    have hb3 := atV_bound L (i + 3)
    generalize atV L (i + 3) = x3 at *
    have hr3 := rem_of (n := 3) hb3.1 (by decide)
    generalize hq3 : x3.tmod 3 = m3 at *
    obtain ⟨ha0, ha1⟩ := hr3
    obtain ⟨hx3, hx3'⟩ := hb3
    go_wp2_with fail
    refine (k3 _ HB2.out).mono ?_
    rintro e w3 ⟨rfl, hw3⟩
    rw [hw3]
    clear hw3 w3
    go_upto_if 54 with fail
    go_cut [] (fun wx => ∃ y : Vt, Hid (Blk wx nV [.int .i64 y.h, .int .i64 y.r, .int .i64 y.s, .string y.i, .int .i64 y.v] 31) ∧ Hid (Below wr.heap.size wr wx))
    case first =>
      have hc3 : m3 = 0 ∨ m3 = 1 ∨ m3 = 2 := by omega
      rcases hc3 with hc3 | hc3 | hc3
      · subst hc3
        go_wp2_with fail
        go_meet
        exact ⟨y, HV, HX⟩
      · subst hc3
        go_wp2_with fail
        refine (k3 _ HB2.out).mono ?_
        rintro e w3 ⟨rfl, hw3⟩
        rw [hw3]
        clear hw3 w3
        obtain ⟨w4, hw4⟩ : ∃ W, w2.alloc (.cells #[.int .u8 1] 5) = W := ⟨_, rfl⟩
        have HV4 : Hid (Blk w4 nV [.int .i64 y.h, .int .i64 y.r, .int .i64 y.s, .string y.i, .int .i64 y.v] 31) := by rw [← hw4]; exact HV.out.alloc _
        have HX4 : Hid (Below wr.heap.size wr w4) := by rw [← hw4]; exact HX.out.alloc HX.out.size _
        have c4 : w4.cell? ⟨w2.heap.size, 0, none⟩ = some (.int .u8 1) := by rw [← hw4]; exact (blk_new w2 [.int .u8 1] 5).cell 0 rfl
        have hcv : (Go.convert 22 9 (.slice (some ⟨w2.heap.size, 0, none⟩) 1 1)).run Try.prog w4 = .ok (.string ⟨#[1]⟩) w4 := run_convert_bytes_back w4 22 9 5 _ 1 [1] Try.underlying22 Try.underlying5 Try.underlying9 fun k hk => by
          have hk0 : k = 0 := by simp only [List.length_singleton] at hk; omega
          subst hk0
          exact c4
        go_wp2_with fail
        clear c4 hw4 hcv
        refine (spec_short ⟨#[1]⟩ _ (by decide)).mono ?_
        rintro e w5 ⟨rfl, b5⟩
        generalize shortB ⟨#[1]⟩ = T
        have HV5 : Hid (Blk w5 nV [.int .i64 y.h, .int .i64 y.r, .int .i64 y.s, .string y.i, .int .i64 y.v] 31) := HV4.out.below b5 HV4.out.lt
        have HX5 : Hid (Below wr.heap.size wr w5) := HX4.out.trans (b5.mono HX4.out.size)
        have v_3 := HV5.out.cell 3 rfl
        have v_f := fun j => HV5.out.frozen j
        have HV6 : Hid (Blk (w5.setCell ⟨nV, 3, none⟩ (.string T)) nV [.int .i64 y.h, .int .i64 y.r, .int .i64 y.s, .string T, .int .i64 y.v] 31) := HV5.out.set 3 (.string T)
        have HX6 : Hid (Below wr.heap.size wr (w5.setCell ⟨nV, 3, none⟩ (.string T))) := HX5.out.setCell (p := ⟨nV, 3, none⟩) (by rw [hnV]; exact Nat.le_refl _) _
        clear HV5 HX5 HV4 HX4
        go_wp2_with fail
        go_meet
        exact ⟨⟨y.h, y.r, y.s, T, y.v⟩, HV6, HX6⟩
      · subst hc3
        go_wp2_with fail
        refine (k3 _ HB2.out).mono ?_
        rintro e w3 ⟨rfl, hw3⟩
        rw [hw3]
        clear hw3 w3
        obtain ⟨w4, hw4⟩ : ∃ W, w2.alloc (.cells #[.int .u8 2] 5) = W := ⟨_, rfl⟩
        have HV4 : Hid (Blk w4 nV [.int .i64 y.h, .int .i64 y.r, .int .i64 y.s, .string y.i, .int .i64 y.v] 31) := by rw [← hw4]; exact HV.out.alloc _
        have HX4 : Hid (Below wr.heap.size wr w4) := by rw [← hw4]; exact HX.out.alloc HX.out.size _
        have c4 : w4.cell? ⟨w2.heap.size, 0, none⟩ = some (.int .u8 2) := by rw [← hw4]; exact (blk_new w2 [.int .u8 2] 5).cell 0 rfl
        have hcv : (Go.convert 22 9 (.slice (some ⟨w2.heap.size, 0, none⟩) 1 1)).run Try.prog w4 = .ok (.string ⟨#[2]⟩) w4 := run_convert_bytes_back w4 22 9 5 _ 1 [2] Try.underlying22 Try.underlying5 Try.underlying9 fun k hk => by
          have hk0 : k = 0 := by simp only [List.length_singleton] at hk; omega
          subst hk0
          exact c4
        go_wp2_with fail
        clear c4 hw4 hcv
        refine (spec_short ⟨#[2]⟩ _ (by decide)).mono ?_
        rintro e w5 ⟨rfl, b5⟩
        generalize shortB ⟨#[2]⟩ = T
        have HV5 : Hid (Blk w5 nV [.int .i64 y.h, .int .i64 y.r, .int .i64 y.s, .string y.i, .int .i64 y.v] 31) := HV4.out.below b5 HV4.out.lt
        have HX5 : Hid (Below wr.heap.size wr w5) := HX4.out.trans (b5.mono HX4.out.size)
        have v_3 := HV5.out.cell 3 rfl
        have v_f := fun j => HV5.out.frozen j
        have HV6 : Hid (Blk (w5.setCell ⟨nV, 3, none⟩ (.string T)) nV [.int .i64 y.h, .int .i64 y.r, .int .i64 y.s, .string T, .int .i64 y.v] 31) := HV5.out.set 3 (.string T)
        have HX6 : Hid (Below wr.heap.size wr (w5.setCell ⟨nV, 3, none⟩ (.string T))) := HX5.out.setCell (p := ⟨nV, 3, none⟩) (by rw [hnV]; exact Nat.le_refl _) _
        clear HV5 HX5 HV4 HX4
        go_wp2_with fail
        go_meet
        exact ⟨⟨y.h, y.r, y.s, T, y.v⟩, HV6, HX6⟩
    case rest =>
    clear k3 hq3 ha0 ha1 hx3 hx3' HV HX HB2 y
    obtain ⟨⟨yh, yr, ys, yi, yv⟩, HV, HX⟩ := hcut
    rename World => w3
    simp only at HV
    have HB3 : Hid (Below w.heap.size w w3) := HB.out.trans (HX.out.mono HB.out.size)
    have HS3 : Hid (Blk w3 w.heap.size [.int .i64 zv, .int .i64 zdh, .int .i64 zdr, .int .i64 zds, .string zdi, .int .i64 zmh, .int .i64 zmr, .int .i64 zms, .string zmi, .bool zp, .slice za zo.length zc] 29) := HS.out.below HX.out HS.out.lt
    have HR3 : Hid (Rdd w3 (w.heap.size + 1) nV zo za) := by rw [← hnV]; exact HR.out.below HX.out
    clear HS HR HB HX hwS
    obtain ⟨nX, hnX⟩ : ∃ n, w3.heap.size = n := ⟨_, rfl⟩
    have hVX : nV < nX := by rw [← hnX]; exact HV.out.lt
    have hSX : w.heap.size < nX := by rw [← hnX]; exact HS3.out.lt
    obtain ⟨w4, hw4⟩ : ∃ W, w3.alloc (.cells #[.int .i64 zv, .int .i64 zdh, .int .i64 zdr, .int .i64 zds, .string zdi, .int .i64 zmh, .int .i64 zmr, .int .i64 zms, .string zmi, .bool zp, .slice za zo.length zc] 29) = W := ⟨_, rfl⟩
    have HX4 : Hid (Blk w4 nX [.int .i64 zv, .int .i64 zdh, .int .i64 zdr, .int .i64 zds, .string zdi, .int .i64 zmh, .int .i64 zmr, .int .i64 zms, .string zmi, .bool zp, .slice za zo.length zc] 29) := by rw [← hw4, ← hnX]; exact blk_new _ _ _
    have HA4 : Hid (Below w3.heap.size w3 w4) := by rw [← hw4]; exact below_one _ _
    have HV4 : Hid (Blk w4 nV [.int .i64 yh, .int .i64 yr, .int .i64 ys, .string yi, .int .i64 yv] 31) := HV.out.below HA4.out HV.out.lt
    have HS4 : Hid (Blk w4 w.heap.size [.int .i64 zv, .int .i64 zdh, .int .i64 zdr, .int .i64 zds, .string zdi, .int .i64 zmh, .int .i64 zmr, .int .i64 zms, .string zmi, .bool zp, .slice za zo.length zc] 29) := HS3.out.below HA4.out HS3.out.lt
    have HR4 : Hid (Rdd w4 (w.heap.size + 1) nV zo za) := HR3.out.below HA4.out
    have HB4 : Hid (Below w.heap.size w w4) := HB3.out.trans (HA4.out.mono HB3.out.size)
    clear HV HR3 HB3 HA4
    have s_0 := HS3.out.cell 0 rfl
    have s_1 := HS3.out.cell 1 rfl
    have s_2 := HS3.out.cell 2 rfl
    have s_3 := HS3.out.cell 3 rfl
    have s_4 := HS3.out.cell 4 rfl
    have s_5 := HS3.out.cell 5 rfl
    have s_6 := HS3.out.cell 6 rfl
    have s_7 := HS3.out.cell 7 rfl
    have s_8 := HS3.out.cell 8 rfl
    have s_9 := HS3.out.cell 9 rfl
    have s_10 := HS3.out.cell 10 rfl
    have k4 := fun W hb => at_w (cap := cap) HL.out hlen (i + 4) (by omega) ((i : Int) + 4) (by omega) W hb
    have hb4 := atV_bound L (i + 4)
    generalize atV L (i + 4) = x4 at *
    have hr4 := rem_of (n := 5) hb4.1 (by decide)
    generalize hq4 : x4.tmod 5 = m4 at *
    obtain ⟨ha0, ha1⟩ := hr4
    obtain ⟨hx4, hx4'⟩ := hb4
    go_wp2_with fail
    clear s_0 s_1 s_2 s_3 s_4 s_5 s_6 s_7 s_8 s_9 s_10 hw4 hnX HS3
    refine (k4 _ HB4.out).mono ?_
    rintro e w5 ⟨rfl, hw5⟩
    rw [hw5]
    clear hw5 w5 k4
    go_upto_block 2 with fail
    clear hq4 hx4 hx4'
    go_cut [] (fun wx => ∃ (x : Sg) (xa : Option Addr) (xc : Nat), Hid (Inv x) ∧ x.o.length ≤ zo.length + 1 ∧ Hid (Blk wx nX (sL x (.slice xa x.o.length xc)) 29) ∧ Hid (Blk wx w.heap.size [.int .i64 zv, .int .i64 zdh, .int .i64 zdr, .int .i64 zds, .string zdi, .int .i64 zmh, .int .i64 zmr, .int .i64 zms, .string zmi, .bool zp, .slice za zo.length zc] 29) ∧ Hid (Rdd wx (nX + 1) wx.heap.size x.o xa) ∧ Hid ((xa = none → xc = 0) ∧ x.o.length ≤ xc ∧ xc ≤ 9223372036854775807) ∧ Hid (Below w.heap.size w wx))
    case first =>
      have hc4 : m4 = 0 ∨ m4 = 1 ∨ m4 = 2 ∨ m4 = 3 ∨ m4 = 4 := by omega
      have h60 : zo.length < 60 := by omega
      rcases hc4 with rfl | rfl | rfl | rfl | rfl
      · skip
        have kI := impl_ask ⟨zv, ⟨zdh, zdr, zds, zdi⟩, ⟨zmh, zmr, zms, zmi⟩, zp, zo⟩ ⟨yh, yr, ys, yi, yv⟩ za zc w4 HR4.out.1 HF.out.1 HF.out.2 h60
        have kJ := fun W (h : YO W za zo) => spec_ask ⟨zv, ⟨zdh, zdr, zds, zdi⟩, ⟨zmh, zmr, zms, zmi⟩, zp, zo⟩ ⟨yh, yr, ys, yi, yv⟩ za zc W h HF.out.1 (by simp only; omega)
        have HI9 : Hid (Inv (askS ⟨zv, ⟨zdh, zdr, zds, zdi⟩, ⟨zmh, zmr, zms, zmi⟩, zp, zo⟩ ⟨yh, yr, ys, yi, yv⟩).1) := HI.out.ask _
        have hxl := askS_len ⟨zv, ⟨zdh, zdr, zds, zdi⟩, ⟨zmh, zmr, zms, zmi⟩, zp, zo⟩ ⟨yh, yr, ys, yi, yv⟩
        generalize (askS ⟨zv, ⟨zdh, zdr, zds, zdi⟩, ⟨zmh, zmr, zms, zmi⟩, zp, zo⟩ ⟨yh, yr, ys, yi, yv⟩).1 = x at *
        generalize (askS ⟨zv, ⟨zdh, zdr, zds, zdi⟩, ⟨zmh, zmr, zms, zmi⟩, zp, zo⟩ ⟨yh, yr, ys, yi, yv⟩).2 = c at *
        have hcc : ((c : Int) != c) = false := by simp
        obtain ⟨xv, ⟨xdh, xdr, xds, xdi⟩, ⟨xmh, xmr, xms, xmi⟩, xp, xo⟩ := x
        unfold sV sQ tV at *
        simp only at *
        have s_0 := HS4.out.cell 0 rfl
        have s_1 := HS4.out.cell 1 rfl
        have s_2 := HS4.out.cell 2 rfl
        have s_3 := HS4.out.cell 3 rfl
        have s_4 := HS4.out.cell 4 rfl
        have s_5 := HS4.out.cell 5 rfl
        have s_6 := HS4.out.cell 6 rfl
        have s_7 := HS4.out.cell 7 rfl
        have s_8 := HS4.out.cell 8 rfl
        have s_9 := HS4.out.cell 9 rfl
        have s_10 := HS4.out.cell 10 rfl
        have v_0 := HV4.out.cell 0 rfl
        have v_1 := HV4.out.cell 1 rfl
        have v_2 := HV4.out.cell 2 rfl
        have v_3 := HV4.out.cell 3 rfl
        have v_4 := HV4.out.cell 4 rfl
        go_wp2_with fail
        clear s_0 s_1 s_2 s_3 s_4 s_5 s_6 s_7 s_8 s_9 s_10 v_0 v_1 v_2 v_3 v_4
        refine kI.mono ?_
        rintro e w6 ⟨xa, xc, rfl, HQ, bb⟩
        have HF9 : Hid ((xa = none → xc = 0) ∧ xo.length ≤ xc ∧ xc ≤ 9223372036854775807) := OwnY.fit HQ.out
        have HR6 : Hid (Rdd w6 (nX + 1) w6.heap.size xo xa) := OwnY.rdd2 (own_less HQ.out (show nX + 1 ≤ _ from HX4.out.lt))
        have HX6 : Hid (Blk w6 nX [.int .i64 zv, .int .i64 zdh, .int .i64 zdr, .int .i64 zds, .string zdi, .int .i64 zmh, .int .i64 zmr, .int .i64 zms, .string zmi, .bool zp, .slice za zo.length zc] 29) := HX4.out.below bb HX4.out.lt
        have HS6 : Hid (Blk w6 w.heap.size [.int .i64 zv, .int .i64 zdh, .int .i64 zdr, .int .i64 zds, .string zdi, .int .i64 zmh, .int .i64 zmr, .int .i64 zms, .string zmi, .bool zp, .slice za zo.length zc] 29) := HS4.out.below bb HS4.out.lt
        have HV6 : Hid (Blk w6 nV [.int .i64 yh, .int .i64 yr, .int .i64 ys, .string yi, .int .i64 yv] 31) := HV4.out.below bb HV4.out.lt
        have HO6 : Hid (Rdd w6 (w.heap.size + 1) nV zo za) := HR4.out.below bb
        have HB6 : Hid (Below w.heap.size w w6) := HB4.out.trans (bb.mono HB4.out.size)
        obtain ⟨nY, hnY⟩ : ∃ n, w6.heap.size = n := ⟨_, rfl⟩
        rw [hnY] at HR6
        have hXY : nX < nY := by rw [← hnY]; exact HX6.out.lt
        clear kI HQ bb HX4 HS4 HV4 HR4 HB4
        obtain ⟨w7, hw7⟩ : ∃ W, w6.alloc (.cells #[.int .i64 xv, .int .i64 xdh, .int .i64 xdr, .int .i64 xds, .string xdi, .int .i64 xmh, .int .i64 xmr, .int .i64 xms, .string xmi, .bool xp, .slice xa xo.length xc] 29) = W := ⟨_, rfl⟩
        have HA7 : Hid (Below w6.heap.size w6 w7) := by rw [← hw7]; exact below_one _ _
        have HY7 : Hid (Blk w7 nY [.int .i64 xv, .int .i64 xdh, .int .i64 xdr, .int .i64 xds, .string xdi, .int .i64 xmh, .int .i64 xmr, .int .i64 xms, .string xmi, .bool xp, .slice xa xo.length xc] 29) := by rw [← hw7, ← hnY]; exact blk_new _ _ _
        have HX7 : Hid (Blk w7 nX [.int .i64 zv, .int .i64 zdh, .int .i64 zdr, .int .i64 zds, .string zdi, .int .i64 zmh, .int .i64 zmr, .int .i64 zms, .string zmi, .bool zp, .slice za zo.length zc] 29) := HX6.out.below HA7.out HX6.out.lt
        have HS7 : Hid (Blk w7 w.heap.size [.int .i64 zv, .int .i64 zdh, .int .i64 zdr, .int .i64 zds, .string zdi, .int .i64 zmh, .int .i64 zmr, .int .i64 zms, .string zmi, .bool zp, .slice za zo.length zc] 29) := HS6.out.below HA7.out HS6.out.lt
        have HV7 : Hid (Blk w7 nV [.int .i64 yh, .int .i64 yr, .int .i64 ys, .string yi, .int .i64 yv] 31) := HV6.out.below HA7.out HV6.out.lt
        have HO7 : Hid (Rdd w7 (w.heap.size + 1) nV zo za) := HO6.out.below HA7.out
        have HR7 : Hid (Rdd w7 (nX + 1) nY xo xa) := HR6.out.below HA7.out
        have HB7 : Hid (Below w.heap.size w w7) := HB6.out.trans (HA7.out.mono HB6.out.size)
        have hY7 : nY ≤ w7.heap.size := Nat.le_of_lt HY7.out.lt
        clear HX6 HS6 HV6 HO6 HR6 HB6 HA7
        have s_0 := HS7.out.cell 0 rfl
        have s_1 := HS7.out.cell 1 rfl
        have s_2 := HS7.out.cell 2 rfl
        have s_3 := HS7.out.cell 3 rfl
        have s_4 := HS7.out.cell 4 rfl
        have s_5 := HS7.out.cell 5 rfl
        have s_6 := HS7.out.cell 6 rfl
        have s_7 := HS7.out.cell 7 rfl
        have s_8 := HS7.out.cell 8 rfl
        have s_9 := HS7.out.cell 9 rfl
        have s_10 := HS7.out.cell 10 rfl
        have v_0 := HV7.out.cell 0 rfl
        have v_1 := HV7.out.cell 1 rfl
        have v_2 := HV7.out.cell 2 rfl
        have v_3 := HV7.out.cell 3 rfl
        have v_4 := HV7.out.cell 4 rfl
        go_wp2_with fail
        clear s_0 s_1 s_2 s_3 s_4 s_5 s_6 s_7 s_8 s_9 s_10 v_0 v_1 v_2 v_3 v_4 hw7 hnY
        refine (kJ _ HO7.out.1).mono ?_
        rintro e w8 ⟨ja, jc, rfl, HQ, bb⟩
        clear HQ kJ
        have HX8 : Hid (Blk w8 nX [.int .i64 zv, .int .i64 zdh, .int .i64 zdr, .int .i64 zds, .string zdi, .int .i64 zmh, .int .i64 zmr, .int .i64 zms, .string zmi, .bool zp, .slice za zo.length zc] 29) := HX7.out.below bb HX7.out.lt
        have HY8 : Hid (Blk w8 nY [.int .i64 xv, .int .i64 xdh, .int .i64 xdr, .int .i64 xds, .string xdi, .int .i64 xmh, .int .i64 xmr, .int .i64 xms, .string xmi, .bool xp, .slice xa xo.length xc] 29) := HY7.out.below bb HY7.out.lt
        have HS8 : Hid (Blk w8 w.heap.size [.int .i64 zv, .int .i64 zdh, .int .i64 zdr, .int .i64 zds, .string zdi, .int .i64 zmh, .int .i64 zmr, .int .i64 zms, .string zmi, .bool zp, .slice za zo.length zc] 29) := HS7.out.below bb HS7.out.lt
        have HR8 : Hid (Rdd w8 (nX + 1) nY xo xa) := HR7.out.below bb
        have HB8 : Hid (Below w.heap.size w w8) := HB7.out.trans (bb.mono HB7.out.size)
        have hY8 : nY ≤ w8.heap.size := Nat.le_of_lt HY8.out.lt
        clear bb HX7 HY7 HS7 HR7 HB7 HV7 HO7
        obtain ⟨w9, hw9⟩ : ∃ W, w8.alloc (.cells #[.int .i64 xv, .int .i64 xdh, .int .i64 xdr, .int .i64 xds, .string xdi, .int .i64 xmh, .int .i64 xmr, .int .i64 xms, .string xmi, .bool xp, .slice ja xo.length jc] 29) = W := ⟨_, rfl⟩
        have HA9 : Hid (Below w8.heap.size w8 w9) := by rw [← hw9]; exact below_one _ _
        have HX : Hid (Blk w9 nX [.int .i64 zv, .int .i64 zdh, .int .i64 zdr, .int .i64 zds, .string zdi, .int .i64 zmh, .int .i64 zmr, .int .i64 zms, .string zmi, .bool zp, .slice za zo.length zc] 29) := HX8.out.below HA9.out HX8.out.lt
        have HY : Hid (Blk w9 nY [.int .i64 xv, .int .i64 xdh, .int .i64 xdr, .int .i64 xds, .string xdi, .int .i64 xmh, .int .i64 xmr, .int .i64 xms, .string xmi, .bool xp, .slice xa xo.length xc] 29) := HY8.out.below HA9.out HY8.out.lt
        have HS : Hid (Blk w9 w.heap.size [.int .i64 zv, .int .i64 zdh, .int .i64 zdr, .int .i64 zds, .string zdi, .int .i64 zmh, .int .i64 zmr, .int .i64 zms, .string zmi, .bool zp, .slice za zo.length zc] 29) := HS8.out.below HA9.out HS8.out.lt
        have HR : Hid (Rdd w9 (nX + 1) w9.heap.size xo xa) := (HR8.out.below HA9.out).up (Nat.le_trans hY8 HA9.out.size)
        have HB : Hid (Below w.heap.size w w9) := HB8.out.trans (HA9.out.mono HB8.out.size)
        clear HX8 HY8 HS8 HR8 HB8 HA9 hY7 hY8
        have KG : Hid (w9.grownBy (((((((((((w9.setCell ⟨nX, 0, none⟩ (.int .i64 xv)).setCell ⟨nX, 1, none⟩ (.int .i64 xdh)).setCell ⟨nX, 2, none⟩ (.int .i64 xdr)).setCell ⟨nX, 3, none⟩ (.int .i64 xds)).setCell ⟨nX, 4, none⟩ (.string xdi)).setCell ⟨nX, 5, none⟩ (.int .i64 xmh)).setCell ⟨nX, 6, none⟩ (.int .i64 xmr)).setCell ⟨nX, 7, none⟩ (.int .i64 xms)).setCell ⟨nX, 8, none⟩ (.string xmi)).setCell ⟨nX, 9, none⟩ (.bool xp)).setCell ⟨nX, 10, none⟩ (.slice xa xo.length xc)) (some nX)) := grown_set (grown_set (grown_set (grown_set (grown_set (grown_set (grown_set (grown_set (grown_set (grown_set (grown_set (grown_refl _ _) _) _) _) _) _) _) _) _) _) _) _
        have HX9 : Hid (Blk (((((((((((w9.setCell ⟨nX, 0, none⟩ (.int .i64 xv)).setCell ⟨nX, 1, none⟩ (.int .i64 xdh)).setCell ⟨nX, 2, none⟩ (.int .i64 xdr)).setCell ⟨nX, 3, none⟩ (.int .i64 xds)).setCell ⟨nX, 4, none⟩ (.string xdi)).setCell ⟨nX, 5, none⟩ (.int .i64 xmh)).setCell ⟨nX, 6, none⟩ (.int .i64 xmr)).setCell ⟨nX, 7, none⟩ (.int .i64 xms)).setCell ⟨nX, 8, none⟩ (.string xmi)).setCell ⟨nX, 9, none⟩ (.bool xp)).setCell ⟨nX, 10, none⟩ (.slice xa xo.length xc)) nX [.int .i64 xv, .int .i64 xdh, .int .i64 xdr, .int .i64 xds, .string xdi, .int .i64 xmh, .int .i64 xmr, .int .i64 xms, .string xmi, .bool xp, .slice xa xo.length xc] 29) := (((((((((((HX.out.set 0 (.int .i64 xv)).set 1 (.int .i64 xdh)).set 2 (.int .i64 xdr)).set 3 (.int .i64 xds)).set 4 (.string xdi)).set 5 (.int .i64 xmh)).set 6 (.int .i64 xmr)).set 7 (.int .i64 xms)).set 8 (.string xmi)).set 9 (.bool xp)).set 10 (.slice xa xo.length xc))
        have HS9 : Hid (Blk (((((((((((w9.setCell ⟨nX, 0, none⟩ (.int .i64 xv)).setCell ⟨nX, 1, none⟩ (.int .i64 xdh)).setCell ⟨nX, 2, none⟩ (.int .i64 xdr)).setCell ⟨nX, 3, none⟩ (.int .i64 xds)).setCell ⟨nX, 4, none⟩ (.string xdi)).setCell ⟨nX, 5, none⟩ (.int .i64 xmh)).setCell ⟨nX, 6, none⟩ (.int .i64 xmr)).setCell ⟨nX, 7, none⟩ (.int .i64 xms)).setCell ⟨nX, 8, none⟩ (.string xmi)).setCell ⟨nX, 9, none⟩ (.bool xp)).setCell ⟨nX, 10, none⟩ (.slice xa xo.length xc)) w.heap.size [.int .i64 zv, .int .i64 zdh, .int .i64 zdr, .int .i64 zds, .string zdi, .int .i64 zmh, .int .i64 zmr, .int .i64 zms, .string zmi, .bool zp, .slice za zo.length zc] 29) := HS.out.grown KG.out (fun e => by injection e with e; omega)
        have HR9 : Hid (Rdd (((((((((((w9.setCell ⟨nX, 0, none⟩ (.int .i64 xv)).setCell ⟨nX, 1, none⟩ (.int .i64 xdh)).setCell ⟨nX, 2, none⟩ (.int .i64 xdr)).setCell ⟨nX, 3, none⟩ (.int .i64 xds)).setCell ⟨nX, 4, none⟩ (.string xdi)).setCell ⟨nX, 5, none⟩ (.int .i64 xmh)).setCell ⟨nX, 6, none⟩ (.int .i64 xmr)).setCell ⟨nX, 7, none⟩ (.int .i64 xms)).setCell ⟨nX, 8, none⟩ (.string xmi)).setCell ⟨nX, 9, none⟩ (.bool xp)).setCell ⟨nX, 10, none⟩ (.slice xa xo.length xc)) (nX + 1) ((((((((((((w9.setCell ⟨nX, 0, none⟩ (.int .i64 xv)).setCell ⟨nX, 1, none⟩ (.int .i64 xdh)).setCell ⟨nX, 2, none⟩ (.int .i64 xdr)).setCell ⟨nX, 3, none⟩ (.int .i64 xds)).setCell ⟨nX, 4, none⟩ (.string xdi)).setCell ⟨nX, 5, none⟩ (.int .i64 xmh)).setCell ⟨nX, 6, none⟩ (.int .i64 xmr)).setCell ⟨nX, 7, none⟩ (.int .i64 xms)).setCell ⟨nX, 8, none⟩ (.string xmi)).setCell ⟨nX, 9, none⟩ (.bool xp)).setCell ⟨nX, 10, none⟩ (.slice xa xo.length xc))).heap.size xo xa) := (HR.out.grown KG.out (fun j e => by injection e with e; omega)).up KG.out.size
        have HB9 : Hid (Below w.heap.size w (((((((((((w9.setCell ⟨nX, 0, none⟩ (.int .i64 xv)).setCell ⟨nX, 1, none⟩ (.int .i64 xdh)).setCell ⟨nX, 2, none⟩ (.int .i64 xdr)).setCell ⟨nX, 3, none⟩ (.int .i64 xds)).setCell ⟨nX, 4, none⟩ (.string xdi)).setCell ⟨nX, 5, none⟩ (.int .i64 xmh)).setCell ⟨nX, 6, none⟩ (.int .i64 xmr)).setCell ⟨nX, 7, none⟩ (.int .i64 xms)).setCell ⟨nX, 8, none⟩ (.string xmi)).setCell ⟨nX, 9, none⟩ (.bool xp)).setCell ⟨nX, 10, none⟩ (.slice xa xo.length xc))) := HB.out.grown KG.out HB.out.size (fun j e => by injection e with e; omega)
        clear KG HS HR HB
        have x_0 := HX.out.cell 0 rfl
        have x_1 := HX.out.cell 1 rfl
        have x_2 := HX.out.cell 2 rfl
        have x_3 := HX.out.cell 3 rfl
        have x_4 := HX.out.cell 4 rfl
        have x_5 := HX.out.cell 5 rfl
        have x_6 := HX.out.cell 6 rfl
        have x_7 := HX.out.cell 7 rfl
        have x_8 := HX.out.cell 8 rfl
        have x_9 := HX.out.cell 9 rfl
        have x_10 := HX.out.cell 10 rfl
        have x_f := fun j => HX.out.frozen j
        have y_0 := HY.out.cell 0 rfl
        have y_1 := HY.out.cell 1 rfl
        have y_2 := HY.out.cell 2 rfl
        have y_3 := HY.out.cell 3 rfl
        have y_4 := HY.out.cell 4 rfl
        have y_5 := HY.out.cell 5 rfl
        have y_6 := HY.out.cell 6 rfl
        have y_7 := HY.out.cell 7 rfl
        have y_8 := HY.out.cell 8 rfl
        have y_9 := HY.out.cell 9 rfl
        have y_10 := HY.out.cell 10 rfl
        clear HX HY
        go_wp2_with fail
        clear x_0 x_1 x_2 x_3 x_4 x_5 x_6 x_7 x_8 x_9 x_10 x_f y_0 y_1 y_2 y_3 y_4 y_5 y_6 y_7 y_8 y_9 y_10
        go_meet
        exact ⟨⟨xv, ⟨xdh, xdr, xds, xdi⟩, ⟨xmh, xmr, xms, xmi⟩, xp, xo⟩, xa, xc, HI9, hxl, HX9, HS9, HR9, HF9, HB9⟩
      · skip
        have kI := impl_ask ⟨zv, ⟨zdh, zdr, zds, zdi⟩, ⟨zmh, zmr, zms, zmi⟩, zp, zo⟩ ⟨yh, yr, ys, yi, yv⟩ za zc w4 HR4.out.1 HF.out.1 HF.out.2 h60
        have kJ := fun W (h : YO W za zo) => spec_ask ⟨zv, ⟨zdh, zdr, zds, zdi⟩, ⟨zmh, zmr, zms, zmi⟩, zp, zo⟩ ⟨yh, yr, ys, yi, yv⟩ za zc W h HF.out.1 (by simp only; omega)
        have HI9 : Hid (Inv (askS ⟨zv, ⟨zdh, zdr, zds, zdi⟩, ⟨zmh, zmr, zms, zmi⟩, zp, zo⟩ ⟨yh, yr, ys, yi, yv⟩).1) := HI.out.ask _
        have hxl := askS_len ⟨zv, ⟨zdh, zdr, zds, zdi⟩, ⟨zmh, zmr, zms, zmi⟩, zp, zo⟩ ⟨yh, yr, ys, yi, yv⟩
        generalize (askS ⟨zv, ⟨zdh, zdr, zds, zdi⟩, ⟨zmh, zmr, zms, zmi⟩, zp, zo⟩ ⟨yh, yr, ys, yi, yv⟩).1 = x at *
        generalize (askS ⟨zv, ⟨zdh, zdr, zds, zdi⟩, ⟨zmh, zmr, zms, zmi⟩, zp, zo⟩ ⟨yh, yr, ys, yi, yv⟩).2 = c at *
        have hcc : ((c : Int) != c) = false := by simp
        obtain ⟨xv, ⟨xdh, xdr, xds, xdi⟩, ⟨xmh, xmr, xms, xmi⟩, xp, xo⟩ := x
        unfold sV sQ tV at *
        simp only at *
        have s_0 := HS4.out.cell 0 rfl
        have s_1 := HS4.out.cell 1 rfl
        have s_2 := HS4.out.cell 2 rfl
        have s_3 := HS4.out.cell 3 rfl
        have s_4 := HS4.out.cell 4 rfl
        have s_5 := HS4.out.cell 5 rfl
        have s_6 := HS4.out.cell 6 rfl
        have s_7 := HS4.out.cell 7 rfl
        have s_8 := HS4.out.cell 8 rfl
        have s_9 := HS4.out.cell 9 rfl
        have s_10 := HS4.out.cell 10 rfl
        have v_0 := HV4.out.cell 0 rfl
        have v_1 := HV4.out.cell 1 rfl
        have v_2 := HV4.out.cell 2 rfl
        have v_3 := HV4.out.cell 3 rfl
        have v_4 := HV4.out.cell 4 rfl
        go_wp2_with fail
        clear s_0 s_1 s_2 s_3 s_4 s_5 s_6 s_7 s_8 s_9 s_10 v_0 v_1 v_2 v_3 v_4
        refine kI.mono ?_
        rintro e w6 ⟨xa, xc, rfl, HQ, bb⟩
        have HF9 : Hid ((xa = none → xc = 0) ∧ xo.length ≤ xc ∧ xc ≤ 9223372036854775807) := OwnY.fit HQ.out
        have HR6 : Hid (Rdd w6 (nX + 1) w6.heap.size xo xa) := OwnY.rdd2 (own_less HQ.out (show nX + 1 ≤ _ from HX4.out.lt))
        have HX6 : Hid (Blk w6 nX [.int .i64 zv, .int .i64 zdh, .int .i64 zdr, .int .i64 zds, .string zdi, .int .i64 zmh, .int .i64 zmr, .int .i64 zms, .string zmi, .bool zp, .slice za zo.length zc] 29) := HX4.out.below bb HX4.out.lt
        have HS6 : Hid (Blk w6 w.heap.size [.int .i64 zv, .int .i64 zdh, .int .i64 zdr, .int .i64 zds, .string zdi, .int .i64 zmh, .int .i64 zmr, .int .i64 zms, .string zmi, .bool zp, .slice za zo.length zc] 29) := HS4.out.below bb HS4.out.lt
        have HV6 : Hid (Blk w6 nV [.int .i64 yh, .int .i64 yr, .int .i64 ys, .string yi, .int .i64 yv] 31) := HV4.out.below bb HV4.out.lt
        have HO6 : Hid (Rdd w6 (w.heap.size + 1) nV zo za) := HR4.out.below bb
        have HB6 : Hid (Below w.heap.size w w6) := HB4.out.trans (bb.mono HB4.out.size)
        obtain ⟨nY, hnY⟩ : ∃ n, w6.heap.size = n := ⟨_, rfl⟩
        rw [hnY] at HR6
        have hXY : nX < nY := by rw [← hnY]; exact HX6.out.lt
        clear kI HQ bb HX4 HS4 HV4 HR4 HB4
        obtain ⟨w7, hw7⟩ : ∃ W, w6.alloc (.cells #[.int .i64 xv, .int .i64 xdh, .int .i64 xdr, .int .i64 xds, .string xdi, .int .i64 xmh, .int .i64 xmr, .int .i64 xms, .string xmi, .bool xp, .slice xa xo.length xc] 29) = W := ⟨_, rfl⟩
        have HA7 : Hid (Below w6.heap.size w6 w7) := by rw [← hw7]; exact below_one _ _
        have HY7 : Hid (Blk w7 nY [.int .i64 xv, .int .i64 xdh, .int .i64 xdr, .int .i64 xds, .string xdi, .int .i64 xmh, .int .i64 xmr, .int .i64 xms, .string xmi, .bool xp, .slice xa xo.length xc] 29) := by rw [← hw7, ← hnY]; exact blk_new _ _ _
        have HX7 : Hid (Blk w7 nX [.int .i64 zv, .int .i64 zdh, .int .i64 zdr, .int .i64 zds, .string zdi, .int .i64 zmh, .int .i64 zmr, .int .i64 zms, .string zmi, .bool zp, .slice za zo.length zc] 29) := HX6.out.below HA7.out HX6.out.lt
        have HS7 : Hid (Blk w7 w.heap.size [.int .i64 zv, .int .i64 zdh, .int .i64 zdr, .int .i64 zds, .string zdi, .int .i64 zmh, .int .i64 zmr, .int .i64 zms, .string zmi, .bool zp, .slice za zo.length zc] 29) := HS6.out.below HA7.out HS6.out.lt
        have HV7 : Hid (Blk w7 nV [.int .i64 yh, .int .i64 yr, .int .i64 ys, .string yi, .int .i64 yv] 31) := HV6.out.below HA7.out HV6.out.lt
        have HO7 : Hid (Rdd w7 (w.heap.size + 1) nV zo za) := HO6.out.below HA7.out
        have HR7 : Hid (Rdd w7 (nX + 1) nY xo xa) := HR6.out.below HA7.out
        have HB7 : Hid (Below w.heap.size w w7) := HB6.out.trans (HA7.out.mono HB6.out.size)
        have hY7 : nY ≤ w7.heap.size := Nat.le_of_lt HY7.out.lt
        clear HX6 HS6 HV6 HO6 HR6 HB6 HA7
        have s_0 := HS7.out.cell 0 rfl
        have s_1 := HS7.out.cell 1 rfl
        have s_2 := HS7.out.cell 2 rfl
        have s_3 := HS7.out.cell 3 rfl
        have s_4 := HS7.out.cell 4 rfl
        have s_5 := HS7.out.cell 5 rfl
        have s_6 := HS7.out.cell 6 rfl
        have s_7 := HS7.out.cell 7 rfl
        have s_8 := HS7.out.cell 8 rfl
        have s_9 := HS7.out.cell 9 rfl
        have s_10 := HS7.out.cell 10 rfl
        have v_0 := HV7.out.cell 0 rfl
        have v_1 := HV7.out.cell 1 rfl
        have v_2 := HV7.out.cell 2 rfl
        have v_3 := HV7.out.cell 3 rfl
        have v_4 := HV7.out.cell 4 rfl
        go_wp2_with fail
        clear s_0 s_1 s_2 s_3 s_4 s_5 s_6 s_7 s_8 s_9 s_10 v_0 v_1 v_2 v_3 v_4 hw7 hnY
        refine (kJ _ HO7.out.1).mono ?_
        rintro e w8 ⟨ja, jc, rfl, HQ, bb⟩
        clear HQ kJ
        have HX8 : Hid (Blk w8 nX [.int .i64 zv, .int .i64 zdh, .int .i64 zdr, .int .i64 zds, .string zdi, .int .i64 zmh, .int .i64 zmr, .int .i64 zms, .string zmi, .bool zp, .slice za zo.length zc] 29) := HX7.out.below bb HX7.out.lt
        have HY8 : Hid (Blk w8 nY [.int .i64 xv, .int .i64 xdh, .int .i64 xdr, .int .i64 xds, .string xdi, .int .i64 xmh, .int .i64 xmr, .int .i64 xms, .string xmi, .bool xp, .slice xa xo.length xc] 29) := HY7.out.below bb HY7.out.lt
        have HS8 : Hid (Blk w8 w.heap.size [.int .i64 zv, .int .i64 zdh, .int .i64 zdr, .int .i64 zds, .string zdi, .int .i64 zmh, .int .i64 zmr, .int .i64 zms, .string zmi, .bool zp, .slice za zo.length zc] 29) := HS7.out.below bb HS7.out.lt
        have HR8 : Hid (Rdd w8 (nX + 1) nY xo xa) := HR7.out.below bb
        have HB8 : Hid (Below w.heap.size w w8) := HB7.out.trans (bb.mono HB7.out.size)
        have hY8 : nY ≤ w8.heap.size := Nat.le_of_lt HY8.out.lt
        clear bb HX7 HY7 HS7 HR7 HB7 HV7 HO7
        obtain ⟨w9, hw9⟩ : ∃ W, w8.alloc (.cells #[.int .i64 xv, .int .i64 xdh, .int .i64 xdr, .int .i64 xds, .string xdi, .int .i64 xmh, .int .i64 xmr, .int .i64 xms, .string xmi, .bool xp, .slice ja xo.length jc] 29) = W := ⟨_, rfl⟩
        have HA9 : Hid (Below w8.heap.size w8 w9) := by rw [← hw9]; exact below_one _ _
        have HX : Hid (Blk w9 nX [.int .i64 zv, .int .i64 zdh, .int .i64 zdr, .int .i64 zds, .string zdi, .int .i64 zmh, .int .i64 zmr, .int .i64 zms, .string zmi, .bool zp, .slice za zo.length zc] 29) := HX8.out.below HA9.out HX8.out.lt
        have HY : Hid (Blk w9 nY [.int .i64 xv, .int .i64 xdh, .int .i64 xdr, .int .i64 xds, .string xdi, .int .i64 xmh, .int .i64 xmr, .int .i64 xms, .string xmi, .bool xp, .slice xa xo.length xc] 29) := HY8.out.below HA9.out HY8.out.lt
        have HS : Hid (Blk w9 w.heap.size [.int .i64 zv, .int .i64 zdh, .int .i64 zdr, .int .i64 zds, .string zdi, .int .i64 zmh, .int .i64 zmr, .int .i64 zms, .string zmi, .bool zp, .slice za zo.length zc] 29) := HS8.out.below HA9.out HS8.out.lt
        have HR : Hid (Rdd w9 (nX + 1) w9.heap.size xo xa) := (HR8.out.below HA9.out).up (Nat.le_trans hY8 HA9.out.size)
        have HB : Hid (Below w.heap.size w w9) := HB8.out.trans (HA9.out.mono HB8.out.size)
        clear HX8 HY8 HS8 HR8 HB8 HA9 hY7 hY8
        have KG : Hid (w9.grownBy (((((((((((w9.setCell ⟨nX, 0, none⟩ (.int .i64 xv)).setCell ⟨nX, 1, none⟩ (.int .i64 xdh)).setCell ⟨nX, 2, none⟩ (.int .i64 xdr)).setCell ⟨nX, 3, none⟩ (.int .i64 xds)).setCell ⟨nX, 4, none⟩ (.string xdi)).setCell ⟨nX, 5, none⟩ (.int .i64 xmh)).setCell ⟨nX, 6, none⟩ (.int .i64 xmr)).setCell ⟨nX, 7, none⟩ (.int .i64 xms)).setCell ⟨nX, 8, none⟩ (.string xmi)).setCell ⟨nX, 9, none⟩ (.bool xp)).setCell ⟨nX, 10, none⟩ (.slice xa xo.length xc)) (some nX)) := grown_set (grown_set (grown_set (grown_set (grown_set (grown_set (grown_set (grown_set (grown_set (grown_set (grown_set (grown_refl _ _) _) _) _) _) _) _) _) _) _) _) _
        have HX9 : Hid (Blk (((((((((((w9.setCell ⟨nX, 0, none⟩ (.int .i64 xv)).setCell ⟨nX, 1, none⟩ (.int .i64 xdh)).setCell ⟨nX, 2, none⟩ (.int .i64 xdr)).setCell ⟨nX, 3, none⟩ (.int .i64 xds)).setCell ⟨nX, 4, none⟩ (.string xdi)).setCell ⟨nX, 5, none⟩ (.int .i64 xmh)).setCell ⟨nX, 6, none⟩ (.int .i64 xmr)).setCell ⟨nX, 7, none⟩ (.int .i64 xms)).setCell ⟨nX, 8, none⟩ (.string xmi)).setCell ⟨nX, 9, none⟩ (.bool xp)).setCell ⟨nX, 10, none⟩ (.slice xa xo.length xc)) nX [.int .i64 xv, .int .i64 xdh, .int .i64 xdr, .int .i64 xds, .string xdi, .int .i64 xmh, .int .i64 xmr, .int .i64 xms, .string xmi, .bool xp, .slice xa xo.length xc] 29) := (((((((((((HX.out.set 0 (.int .i64 xv)).set 1 (.int .i64 xdh)).set 2 (.int .i64 xdr)).set 3 (.int .i64 xds)).set 4 (.string xdi)).set 5 (.int .i64 xmh)).set 6 (.int .i64 xmr)).set 7 (.int .i64 xms)).set 8 (.string xmi)).set 9 (.bool xp)).set 10 (.slice xa xo.length xc))
        have HS9 : Hid (Blk (((((((((((w9.setCell ⟨nX, 0, none⟩ (.int .i64 xv)).setCell ⟨nX, 1, none⟩ (.int .i64 xdh)).setCell ⟨nX, 2, none⟩ (.int .i64 xdr)).setCell ⟨nX, 3, none⟩ (.int .i64 xds)).setCell ⟨nX, 4, none⟩ (.string xdi)).setCell ⟨nX, 5, none⟩ (.int .i64 xmh)).setCell ⟨nX, 6, none⟩ (.int .i64 xmr)).setCell ⟨nX, 7, none⟩ (.int .i64 xms)).setCell ⟨nX, 8, none⟩ (.string xmi)).setCell ⟨nX, 9, none⟩ (.bool xp)).setCell ⟨nX, 10, none⟩ (.slice xa xo.length xc)) w.heap.size [.int .i64 zv, .int .i64 zdh, .int .i64 zdr, .int .i64 zds, .string zdi, .int .i64 zmh, .int .i64 zmr, .int .i64 zms, .string zmi, .bool zp, .slice za zo.length zc] 29) := HS.out.grown KG.out (fun e => by injection e with e; omega)
        have HR9 : Hid (Rdd (((((((((((w9.setCell ⟨nX, 0, none⟩ (.int .i64 xv)).setCell ⟨nX, 1, none⟩ (.int .i64 xdh)).setCell ⟨nX, 2, none⟩ (.int .i64 xdr)).setCell ⟨nX, 3, none⟩ (.int .i64 xds)).setCell ⟨nX, 4, none⟩ (.string xdi)).setCell ⟨nX, 5, none⟩ (.int .i64 xmh)).setCell ⟨nX, 6, none⟩ (.int .i64 xmr)).setCell ⟨nX, 7, none⟩ (.int .i64 xms)).setCell ⟨nX, 8, none⟩ (.string xmi)).setCell ⟨nX, 9, none⟩ (.bool xp)).setCell ⟨nX, 10, none⟩ (.slice xa xo.length xc)) (nX + 1) ((((((((((((w9.setCell ⟨nX, 0, none⟩ (.int .i64 xv)).setCell ⟨nX, 1, none⟩ (.int .i64 xdh)).setCell ⟨nX, 2, none⟩ (.int .i64 xdr)).setCell ⟨nX, 3, none⟩ (.int .i64 xds)).setCell ⟨nX, 4, none⟩ (.string xdi)).setCell ⟨nX, 5, none⟩ (.int .i64 xmh)).setCell ⟨nX, 6, none⟩ (.int .i64 xmr)).setCell ⟨nX, 7, none⟩ (.int .i64 xms)).setCell ⟨nX, 8, none⟩ (.string xmi)).setCell ⟨nX, 9, none⟩ (.bool xp)).setCell ⟨nX, 10, none⟩ (.slice xa xo.length xc))).heap.size xo xa) := (HR.out.grown KG.out (fun j e => by injection e with e; omega)).up KG.out.size
        have HB9 : Hid (Below w.heap.size w (((((((((((w9.setCell ⟨nX, 0, none⟩ (.int .i64 xv)).setCell ⟨nX, 1, none⟩ (.int .i64 xdh)).setCell ⟨nX, 2, none⟩ (.int .i64 xdr)).setCell ⟨nX, 3, none⟩ (.int .i64 xds)).setCell ⟨nX, 4, none⟩ (.string xdi)).setCell ⟨nX, 5, none⟩ (.int .i64 xmh)).setCell ⟨nX, 6, none⟩ (.int .i64 xmr)).setCell ⟨nX, 7, none⟩ (.int .i64 xms)).setCell ⟨nX, 8, none⟩ (.string xmi)).setCell ⟨nX, 9, none⟩ (.bool xp)).setCell ⟨nX, 10, none⟩ (.slice xa xo.length xc))) := HB.out.grown KG.out HB.out.size (fun j e => by injection e with e; omega)
        clear KG HS HR HB
        have x_0 := HX.out.cell 0 rfl
        have x_1 := HX.out.cell 1 rfl
        have x_2 := HX.out.cell 2 rfl
        have x_3 := HX.out.cell 3 rfl
        have x_4 := HX.out.cell 4 rfl
        have x_5 := HX.out.cell 5 rfl
        have x_6 := HX.out.cell 6 rfl
        have x_7 := HX.out.cell 7 rfl
        have x_8 := HX.out.cell 8 rfl
        have x_9 := HX.out.cell 9 rfl
        have x_10 := HX.out.cell 10 rfl
        have x_f := fun j => HX.out.frozen j
        have y_0 := HY.out.cell 0 rfl
        have y_1 := HY.out.cell 1 rfl
        have y_2 := HY.out.cell 2 rfl
        have y_3 := HY.out.cell 3 rfl
        have y_4 := HY.out.cell 4 rfl
        have y_5 := HY.out.cell 5 rfl
        have y_6 := HY.out.cell 6 rfl
        have y_7 := HY.out.cell 7 rfl
        have y_8 := HY.out.cell 8 rfl
        have y_9 := HY.out.cell 9 rfl
        have y_10 := HY.out.cell 10 rfl
        clear HX HY
        go_wp2_with fail
        clear x_0 x_1 x_2 x_3 x_4 x_5 x_6 x_7 x_8 x_9 x_10 x_f y_0 y_1 y_2 y_3 y_4 y_5 y_6 y_7 y_8 y_9 y_10
        go_meet
        exact ⟨⟨xv, ⟨xdh, xdr, xds, xdi⟩, ⟨xmh, xmr, xms, xmi⟩, xp, xo⟩, xa, xc, HI9, hxl, HX9, HS9, HR9, HF9, HB9⟩
      · skip
        have kI := impl_sync ⟨zv, ⟨zdh, zdr, zds, zdi⟩, ⟨zmh, zmr, zms, zmi⟩, zp, zo⟩ za zc w4 HR4.out.1 HF.out.1 HF.out.2
        have HI9 : Hid (Inv (synS ⟨zv, ⟨zdh, zdr, zds, zdi⟩, ⟨zmh, zmr, zms, zmi⟩, zp, zo⟩).1) := HI.out.syn
        have hxl := synS_len2 ⟨zv, ⟨zdh, zdr, zds, zdi⟩, ⟨zmh, zmr, zms, zmi⟩, zp, zo⟩
        generalize (synS ⟨zv, ⟨zdh, zdr, zds, zdi⟩, ⟨zmh, zmr, zms, zmi⟩, zp, zo⟩).1 = x at *
        generalize (synS ⟨zv, ⟨zdh, zdr, zds, zdi⟩, ⟨zmh, zmr, zms, zmi⟩, zp, zo⟩).2 = c at *
        obtain ⟨xv, ⟨xdh, xdr, xds, xdi⟩, ⟨xmh, xmr, xms, xmi⟩, xp, xo⟩ := x
        unfold sV sQ at *
        simp only at *
        have s_0 := HS4.out.cell 0 rfl
        have s_1 := HS4.out.cell 1 rfl
        have s_2 := HS4.out.cell 2 rfl
        have s_3 := HS4.out.cell 3 rfl
        have s_4 := HS4.out.cell 4 rfl
        have s_5 := HS4.out.cell 5 rfl
        have s_6 := HS4.out.cell 6 rfl
        have s_7 := HS4.out.cell 7 rfl
        have s_8 := HS4.out.cell 8 rfl
        have s_9 := HS4.out.cell 9 rfl
        have s_10 := HS4.out.cell 10 rfl
        go_wp2_with fail
        clear s_0 s_1 s_2 s_3 s_4 s_5 s_6 s_7 s_8 s_9 s_10 
        refine kI.mono ?_
        rintro e w6 ⟨xa, xc, rfl, HQ, bb⟩
        have HF9 : Hid ((xa = none → xc = 0) ∧ xo.length ≤ xc ∧ xc ≤ 9223372036854775807) := OwnY.fit HQ.out
        have HR6 : Hid (Rdd w6 (nX + 1) w6.heap.size xo xa) := OwnY.rdd2 (own_less HQ.out (show nX + 1 ≤ _ from HX4.out.lt))
        have HX6 : Hid (Blk w6 nX [.int .i64 zv, .int .i64 zdh, .int .i64 zdr, .int .i64 zds, .string zdi, .int .i64 zmh, .int .i64 zmr, .int .i64 zms, .string zmi, .bool zp, .slice za zo.length zc] 29) := HX4.out.below bb HX4.out.lt
        have HS6 : Hid (Blk w6 w.heap.size [.int .i64 zv, .int .i64 zdh, .int .i64 zdr, .int .i64 zds, .string zdi, .int .i64 zmh, .int .i64 zmr, .int .i64 zms, .string zmi, .bool zp, .slice za zo.length zc] 29) := HS4.out.below bb HS4.out.lt
        have HV6 : Hid (Blk w6 nV [.int .i64 yh, .int .i64 yr, .int .i64 ys, .string yi, .int .i64 yv] 31) := HV4.out.below bb HV4.out.lt
        have HO6 : Hid (Rdd w6 (w.heap.size + 1) nV zo za) := HR4.out.below bb
        have HB6 : Hid (Below w.heap.size w w6) := HB4.out.trans (bb.mono HB4.out.size)
        obtain ⟨nY, hnY⟩ : ∃ n, w6.heap.size = n := ⟨_, rfl⟩
        rw [hnY] at HR6
        have hXY : nX < nY := by rw [← hnY]; exact HX6.out.lt
        clear kI HQ bb HX4 HS4 HV4 HR4 HB4
        obtain ⟨w7, hw7⟩ : ∃ W, w6.alloc (.cells #[.int .i64 xv, .int .i64 xdh, .int .i64 xdr, .int .i64 xds, .string xdi, .int .i64 xmh, .int .i64 xmr, .int .i64 xms, .string xmi, .bool xp, .slice xa xo.length xc] 29) = W := ⟨_, rfl⟩
        have HA7 : Hid (Below w6.heap.size w6 w7) := by rw [← hw7]; exact below_one _ _
        have HY7 : Hid (Blk w7 nY [.int .i64 xv, .int .i64 xdh, .int .i64 xdr, .int .i64 xds, .string xdi, .int .i64 xmh, .int .i64 xmr, .int .i64 xms, .string xmi, .bool xp, .slice xa xo.length xc] 29) := by rw [← hw7, ← hnY]; exact blk_new _ _ _
        have HX7 : Hid (Blk w7 nX [.int .i64 zv, .int .i64 zdh, .int .i64 zdr, .int .i64 zds, .string zdi, .int .i64 zmh, .int .i64 zmr, .int .i64 zms, .string zmi, .bool zp, .slice za zo.length zc] 29) := HX6.out.below HA7.out HX6.out.lt
        have HS7 : Hid (Blk w7 w.heap.size [.int .i64 zv, .int .i64 zdh, .int .i64 zdr, .int .i64 zds, .string zdi, .int .i64 zmh, .int .i64 zmr, .int .i64 zms, .string zmi, .bool zp, .slice za zo.length zc] 29) := HS6.out.below HA7.out HS6.out.lt
        have HV7 : Hid (Blk w7 nV [.int .i64 yh, .int .i64 yr, .int .i64 ys, .string yi, .int .i64 yv] 31) := HV6.out.below HA7.out HV6.out.lt
        have HO7 : Hid (Rdd w7 (w.heap.size + 1) nV zo za) := HO6.out.below HA7.out
        have HR7 : Hid (Rdd w7 (nX + 1) nY xo xa) := HR6.out.below HA7.out
        have HB7 : Hid (Below w.heap.size w w7) := HB6.out.trans (HA7.out.mono HB6.out.size)
        have hY7 : nY ≤ w7.heap.size := Nat.le_of_lt HY7.out.lt
        clear HX6 HS6 HV6 HO6 HR6 HB6 HA7
        have HX : Hid (Blk w7 nX [.int .i64 zv, .int .i64 zdh, .int .i64 zdr, .int .i64 zds, .string zdi, .int .i64 zmh, .int .i64 zmr, .int .i64 zms, .string zmi, .bool zp, .slice za zo.length zc] 29) := HX7
        have HY : Hid (Blk w7 nY [.int .i64 xv, .int .i64 xdh, .int .i64 xdr, .int .i64 xds, .string xdi, .int .i64 xmh, .int .i64 xmr, .int .i64 xms, .string xmi, .bool xp, .slice xa xo.length xc] 29) := HY7
        have HS : Hid (Blk w7 w.heap.size [.int .i64 zv, .int .i64 zdh, .int .i64 zdr, .int .i64 zds, .string zdi, .int .i64 zmh, .int .i64 zmr, .int .i64 zms, .string zmi, .bool zp, .slice za zo.length zc] 29) := HS7
        have HR : Hid (Rdd w7 (nX + 1) w7.heap.size xo xa) := HR7.out.up hY7
        have HB : Hid (Below w.heap.size w w7) := HB7
        clear HX7 HY7 HS7 HR7 HB7 HV7 HO7 hY7
        have KG : Hid (w7.grownBy (((((((((((w7.setCell ⟨nX, 0, none⟩ (.int .i64 xv)).setCell ⟨nX, 1, none⟩ (.int .i64 xdh)).setCell ⟨nX, 2, none⟩ (.int .i64 xdr)).setCell ⟨nX, 3, none⟩ (.int .i64 xds)).setCell ⟨nX, 4, none⟩ (.string xdi)).setCell ⟨nX, 5, none⟩ (.int .i64 xmh)).setCell ⟨nX, 6, none⟩ (.int .i64 xmr)).setCell ⟨nX, 7, none⟩ (.int .i64 xms)).setCell ⟨nX, 8, none⟩ (.string xmi)).setCell ⟨nX, 9, none⟩ (.bool xp)).setCell ⟨nX, 10, none⟩ (.slice xa xo.length xc)) (some nX)) := grown_set (grown_set (grown_set (grown_set (grown_set (grown_set (grown_set (grown_set (grown_set (grown_set (grown_set (grown_refl _ _) _) _) _) _) _) _) _) _) _) _) _
        have HX9 : Hid (Blk (((((((((((w7.setCell ⟨nX, 0, none⟩ (.int .i64 xv)).setCell ⟨nX, 1, none⟩ (.int .i64 xdh)).setCell ⟨nX, 2, none⟩ (.int .i64 xdr)).setCell ⟨nX, 3, none⟩ (.int .i64 xds)).setCell ⟨nX, 4, none⟩ (.string xdi)).setCell ⟨nX, 5, none⟩ (.int .i64 xmh)).setCell ⟨nX, 6, none⟩ (.int .i64 xmr)).setCell ⟨nX, 7, none⟩ (.int .i64 xms)).setCell ⟨nX, 8, none⟩ (.string xmi)).setCell ⟨nX, 9, none⟩ (.bool xp)).setCell ⟨nX, 10, none⟩ (.slice xa xo.length xc)) nX [.int .i64 xv, .int .i64 xdh, .int .i64 xdr, .int .i64 xds, .string xdi, .int .i64 xmh, .int .i64 xmr, .int .i64 xms, .string xmi, .bool xp, .slice xa xo.length xc] 29) := (((((((((((HX.out.set 0 (.int .i64 xv)).set 1 (.int .i64 xdh)).set 2 (.int .i64 xdr)).set 3 (.int .i64 xds)).set 4 (.string xdi)).set 5 (.int .i64 xmh)).set 6 (.int .i64 xmr)).set 7 (.int .i64 xms)).set 8 (.string xmi)).set 9 (.bool xp)).set 10 (.slice xa xo.length xc))
        have HS9 : Hid (Blk (((((((((((w7.setCell ⟨nX, 0, none⟩ (.int .i64 xv)).setCell ⟨nX, 1, none⟩ (.int .i64 xdh)).setCell ⟨nX, 2, none⟩ (.int .i64 xdr)).setCell ⟨nX, 3, none⟩ (.int .i64 xds)).setCell ⟨nX, 4, none⟩ (.string xdi)).setCell ⟨nX, 5, none⟩ (.int .i64 xmh)).setCell ⟨nX, 6, none⟩ (.int .i64 xmr)).setCell ⟨nX, 7, none⟩ (.int .i64 xms)).setCell ⟨nX, 8, none⟩ (.string xmi)).setCell ⟨nX, 9, none⟩ (.bool xp)).setCell ⟨nX, 10, none⟩ (.slice xa xo.length xc)) w.heap.size [.int .i64 zv, .int .i64 zdh, .int .i64 zdr, .int .i64 zds, .string zdi, .int .i64 zmh, .int .i64 zmr, .int .i64 zms, .string zmi, .bool zp, .slice za zo.length zc] 29) := HS.out.grown KG.out (fun e => by injection e with e; omega)
        have HR9 : Hid (Rdd (((((((((((w7.setCell ⟨nX, 0, none⟩ (.int .i64 xv)).setCell ⟨nX, 1, none⟩ (.int .i64 xdh)).setCell ⟨nX, 2, none⟩ (.int .i64 xdr)).setCell ⟨nX, 3, none⟩ (.int .i64 xds)).setCell ⟨nX, 4, none⟩ (.string xdi)).setCell ⟨nX, 5, none⟩ (.int .i64 xmh)).setCell ⟨nX, 6, none⟩ (.int .i64 xmr)).setCell ⟨nX, 7, none⟩ (.int .i64 xms)).setCell ⟨nX, 8, none⟩ (.string xmi)).setCell ⟨nX, 9, none⟩ (.bool xp)).setCell ⟨nX, 10, none⟩ (.slice xa xo.length xc)) (nX + 1) ((((((((((((w7.setCell ⟨nX, 0, none⟩ (.int .i64 xv)).setCell ⟨nX, 1, none⟩ (.int .i64 xdh)).setCell ⟨nX, 2, none⟩ (.int .i64 xdr)).setCell ⟨nX, 3, none⟩ (.int .i64 xds)).setCell ⟨nX, 4, none⟩ (.string xdi)).setCell ⟨nX, 5, none⟩ (.int .i64 xmh)).setCell ⟨nX, 6, none⟩ (.int .i64 xmr)).setCell ⟨nX, 7, none⟩ (.int .i64 xms)).setCell ⟨nX, 8, none⟩ (.string xmi)).setCell ⟨nX, 9, none⟩ (.bool xp)).setCell ⟨nX, 10, none⟩ (.slice xa xo.length xc))).heap.size xo xa) := (HR.out.grown KG.out (fun j e => by injection e with e; omega)).up KG.out.size
        have HB9 : Hid (Below w.heap.size w (((((((((((w7.setCell ⟨nX, 0, none⟩ (.int .i64 xv)).setCell ⟨nX, 1, none⟩ (.int .i64 xdh)).setCell ⟨nX, 2, none⟩ (.int .i64 xdr)).setCell ⟨nX, 3, none⟩ (.int .i64 xds)).setCell ⟨nX, 4, none⟩ (.string xdi)).setCell ⟨nX, 5, none⟩ (.int .i64 xmh)).setCell ⟨nX, 6, none⟩ (.int .i64 xmr)).setCell ⟨nX, 7, none⟩ (.int .i64 xms)).setCell ⟨nX, 8, none⟩ (.string xmi)).setCell ⟨nX, 9, none⟩ (.bool xp)).setCell ⟨nX, 10, none⟩ (.slice xa xo.length xc))) := HB.out.grown KG.out HB.out.size (fun j e => by injection e with e; omega)
        clear KG HS HR HB
        have x_0 := HX.out.cell 0 rfl
        have x_1 := HX.out.cell 1 rfl
        have x_2 := HX.out.cell 2 rfl
        have x_3 := HX.out.cell 3 rfl
        have x_4 := HX.out.cell 4 rfl
        have x_5 := HX.out.cell 5 rfl
        have x_6 := HX.out.cell 6 rfl
        have x_7 := HX.out.cell 7 rfl
        have x_8 := HX.out.cell 8 rfl
        have x_9 := HX.out.cell 9 rfl
        have x_10 := HX.out.cell 10 rfl
        have x_f := fun j => HX.out.frozen j
        have y_0 := HY.out.cell 0 rfl
        have y_1 := HY.out.cell 1 rfl
        have y_2 := HY.out.cell 2 rfl
        have y_3 := HY.out.cell 3 rfl
        have y_4 := HY.out.cell 4 rfl
        have y_5 := HY.out.cell 5 rfl
        have y_6 := HY.out.cell 6 rfl
        have y_7 := HY.out.cell 7 rfl
        have y_8 := HY.out.cell 8 rfl
        have y_9 := HY.out.cell 9 rfl
        have y_10 := HY.out.cell 10 rfl
        clear HX HY
        go_wp2_with fail
        clear x_0 x_1 x_2 x_3 x_4 x_5 x_6 x_7 x_8 x_9 x_10 x_f y_0 y_1 y_2 y_3 y_4 y_5 y_6 y_7 y_8 y_9 y_10
        go_meet
        exact ⟨⟨xv, ⟨xdh, xdr, xds, xdi⟩, ⟨xmh, xmr, xms, xmi⟩, xp, xo⟩, xa, xc, HI9, hxl, HX9, HS9, HR9, HF9, HB9⟩
      · skip
        have kI := impl_sync ⟨zv, ⟨zdh, zdr, zds, zdi⟩, ⟨zmh, zmr, zms, zmi⟩, zp, zo⟩ za zc w4 HR4.out.1 HF.out.1 HF.out.2
        have HI9 : Hid (Inv (synS ⟨zv, ⟨zdh, zdr, zds, zdi⟩, ⟨zmh, zmr, zms, zmi⟩, zp, zo⟩).1) := HI.out.syn
        have hxl := synS_len2 ⟨zv, ⟨zdh, zdr, zds, zdi⟩, ⟨zmh, zmr, zms, zmi⟩, zp, zo⟩
        generalize (synS ⟨zv, ⟨zdh, zdr, zds, zdi⟩, ⟨zmh, zmr, zms, zmi⟩, zp, zo⟩).1 = x at *
        generalize (synS ⟨zv, ⟨zdh, zdr, zds, zdi⟩, ⟨zmh, zmr, zms, zmi⟩, zp, zo⟩).2 = c at *
        obtain ⟨xv, ⟨xdh, xdr, xds, xdi⟩, ⟨xmh, xmr, xms, xmi⟩, xp, xo⟩ := x
        unfold sV sQ at *
        simp only at *
        have s_0 := HS4.out.cell 0 rfl
        have s_1 := HS4.out.cell 1 rfl
        have s_2 := HS4.out.cell 2 rfl
        have s_3 := HS4.out.cell 3 rfl
        have s_4 := HS4.out.cell 4 rfl
        have s_5 := HS4.out.cell 5 rfl
        have s_6 := HS4.out.cell 6 rfl
        have s_7 := HS4.out.cell 7 rfl
        have s_8 := HS4.out.cell 8 rfl
        have s_9 := HS4.out.cell 9 rfl
        have s_10 := HS4.out.cell 10 rfl
        go_wp2_with fail
        clear s_0 s_1 s_2 s_3 s_4 s_5 s_6 s_7 s_8 s_9 s_10 
        refine kI.mono ?_
        rintro e w6 ⟨xa, xc, rfl, HQ, bb⟩
        have HF9 : Hid ((xa = none → xc = 0) ∧ xo.length ≤ xc ∧ xc ≤ 9223372036854775807) := OwnY.fit HQ.out
        have HR6 : Hid (Rdd w6 (nX + 1) w6.heap.size xo xa) := OwnY.rdd2 (own_less HQ.out (show nX + 1 ≤ _ from HX4.out.lt))
        have HX6 : Hid (Blk w6 nX [.int .i64 zv, .int .i64 zdh, .int .i64 zdr, .int .i64 zds, .string zdi, .int .i64 zmh, .int .i64 zmr, .int .i64 zms, .string zmi, .bool zp, .slice za zo.length zc] 29) := HX4.out.below bb HX4.out.lt
        have HS6 : Hid (Blk w6 w.heap.size [.int .i64 zv, .int .i64 zdh, .int .i64 zdr, .int .i64 zds, .string zdi, .int .i64 zmh, .int .i64 zmr, .int .i64 zms, .string zmi, .bool zp, .slice za zo.length zc] 29) := HS4.out.below bb HS4.out.lt
        have HV6 : Hid (Blk w6 nV [.int .i64 yh, .int .i64 yr, .int .i64 ys, .string yi, .int .i64 yv] 31) := HV4.out.below bb HV4.out.lt
        have HO6 : Hid (Rdd w6 (w.heap.size + 1) nV zo za) := HR4.out.below bb
        have HB6 : Hid (Below w.heap.size w w6) := HB4.out.trans (bb.mono HB4.out.size)
        obtain ⟨nY, hnY⟩ : ∃ n, w6.heap.size = n := ⟨_, rfl⟩
        rw [hnY] at HR6
        have hXY : nX < nY := by rw [← hnY]; exact HX6.out.lt
        clear kI HQ bb HX4 HS4 HV4 HR4 HB4
        obtain ⟨w7, hw7⟩ : ∃ W, w6.alloc (.cells #[.int .i64 xv, .int .i64 xdh, .int .i64 xdr, .int .i64 xds, .string xdi, .int .i64 xmh, .int .i64 xmr, .int .i64 xms, .string xmi, .bool xp, .slice xa xo.length xc] 29) = W := ⟨_, rfl⟩
        have HA7 : Hid (Below w6.heap.size w6 w7) := by rw [← hw7]; exact below_one _ _
        have HY7 : Hid (Blk w7 nY [.int .i64 xv, .int .i64 xdh, .int .i64 xdr, .int .i64 xds, .string xdi, .int .i64 xmh, .int .i64 xmr, .int .i64 xms, .string xmi, .bool xp, .slice xa xo.length xc] 29) := by rw [← hw7, ← hnY]; exact blk_new _ _ _
        have HX7 : Hid (Blk w7 nX [.int .i64 zv, .int .i64 zdh, .int .i64 zdr, .int .i64 zds, .string zdi, .int .i64 zmh, .int .i64 zmr, .int .i64 zms, .string zmi, .bool zp, .slice za zo.length zc] 29) := HX6.out.below HA7.out HX6.out.lt
        have HS7 : Hid (Blk w7 w.heap.size [.int .i64 zv, .int .i64 zdh, .int .i64 zdr, .int .i64 zds, .string zdi, .int .i64 zmh, .int .i64 zmr, .int .i64 zms, .string zmi, .bool zp, .slice za zo.length zc] 29) := HS6.out.below HA7.out HS6.out.lt
        have HV7 : Hid (Blk w7 nV [.int .i64 yh, .int .i64 yr, .int .i64 ys, .string yi, .int .i64 yv] 31) := HV6.out.below HA7.out HV6.out.lt
        have HO7 : Hid (Rdd w7 (w.heap.size + 1) nV zo za) := HO6.out.below HA7.out
        have HR7 : Hid (Rdd w7 (nX + 1) nY xo xa) := HR6.out.below HA7.out
        have HB7 : Hid (Below w.heap.size w w7) := HB6.out.trans (HA7.out.mono HB6.out.size)
        have hY7 : nY ≤ w7.heap.size := Nat.le_of_lt HY7.out.lt
        clear HX6 HS6 HV6 HO6 HR6 HB6 HA7
        have HX : Hid (Blk w7 nX [.int .i64 zv, .int .i64 zdh, .int .i64 zdr, .int .i64 zds, .string zdi, .int .i64 zmh, .int .i64 zmr, .int .i64 zms, .string zmi, .bool zp, .slice za zo.length zc] 29) := HX7
        have HY : Hid (Blk w7 nY [.int .i64 xv, .int .i64 xdh, .int .i64 xdr, .int .i64 xds, .string xdi, .int .i64 xmh, .int .i64 xmr, .int .i64 xms, .string xmi, .bool xp, .slice xa xo.length xc] 29) := HY7
        have HS : Hid (Blk w7 w.heap.size [.int .i64 zv, .int .i64 zdh, .int .i64 zdr, .int .i64 zds, .string zdi, .int .i64 zmh, .int .i64 zmr, .int .i64 zms, .string zmi, .bool zp, .slice za zo.length zc] 29) := HS7
        have HR : Hid (Rdd w7 (nX + 1) w7.heap.size xo xa) := HR7.out.up hY7
        have HB : Hid (Below w.heap.size w w7) := HB7
        clear HX7 HY7 HS7 HR7 HB7 HV7 HO7 hY7
        have KG : Hid (w7.grownBy (((((((((((w7.setCell ⟨nX, 0, none⟩ (.int .i64 xv)).setCell ⟨nX, 1, none⟩ (.int .i64 xdh)).setCell ⟨nX, 2, none⟩ (.int .i64 xdr)).setCell ⟨nX, 3, none⟩ (.int .i64 xds)).setCell ⟨nX, 4, none⟩ (.string xdi)).setCell ⟨nX, 5, none⟩ (.int .i64 xmh)).setCell ⟨nX, 6, none⟩ (.int .i64 xmr)).setCell ⟨nX, 7, none⟩ (.int .i64 xms)).setCell ⟨nX, 8, none⟩ (.string xmi)).setCell ⟨nX, 9, none⟩ (.bool xp)).setCell ⟨nX, 10, none⟩ (.slice xa xo.length xc)) (some nX)) := grown_set (grown_set (grown_set (grown_set (grown_set (grown_set (grown_set (grown_set (grown_set (grown_set (grown_set (grown_refl _ _) _) _) _) _) _) _) _) _) _) _) _
        have HX9 : Hid (Blk (((((((((((w7.setCell ⟨nX, 0, none⟩ (.int .i64 xv)).setCell ⟨nX, 1, none⟩ (.int .i64 xdh)).setCell ⟨nX, 2, none⟩ (.int .i64 xdr)).setCell ⟨nX, 3, none⟩ (.int .i64 xds)).setCell ⟨nX, 4, none⟩ (.string xdi)).setCell ⟨nX, 5, none⟩ (.int .i64 xmh)).setCell ⟨nX, 6, none⟩ (.int .i64 xmr)).setCell ⟨nX, 7, none⟩ (.int .i64 xms)).setCell ⟨nX, 8, none⟩ (.string xmi)).setCell ⟨nX, 9, none⟩ (.bool xp)).setCell ⟨nX, 10, none⟩ (.slice xa xo.length xc)) nX [.int .i64 xv, .int .i64 xdh, .int .i64 xdr, .int .i64 xds, .string xdi, .int .i64 xmh, .int .i64 xmr, .int .i64 xms, .string xmi, .bool xp, .slice xa xo.length xc] 29) := (((((((((((HX.out.set 0 (.int .i64 xv)).set 1 (.int .i64 xdh)).set 2 (.int .i64 xdr)).set 3 (.int .i64 xds)).set 4 (.string xdi)).set 5 (.int .i64 xmh)).set 6 (.int .i64 xmr)).set 7 (.int .i64 xms)).set 8 (.string xmi)).set 9 (.bool xp)).set 10 (.slice xa xo.length xc))
        have HS9 : Hid (Blk (((((((((((w7.setCell ⟨nX, 0, none⟩ (.int .i64 xv)).setCell ⟨nX, 1, none⟩ (.int .i64 xdh)).setCell ⟨nX, 2, none⟩ (.int .i64 xdr)).setCell ⟨nX, 3, none⟩ (.int .i64 xds)).setCell ⟨nX, 4, none⟩ (.string xdi)).setCell ⟨nX, 5, none⟩ (.int .i64 xmh)).setCell ⟨nX, 6, none⟩ (.int .i64 xmr)).setCell ⟨nX, 7, none⟩ (.int .i64 xms)).setCell ⟨nX, 8, none⟩ (.string xmi)).setCell ⟨nX, 9, none⟩ (.bool xp)).setCell ⟨nX, 10, none⟩ (.slice xa xo.length xc)) w.heap.size [.int .i64 zv, .int .i64 zdh, .int .i64 zdr, .int .i64 zds, .string zdi, .int .i64 zmh, .int .i64 zmr, .int .i64 zms, .string zmi, .bool zp, .slice za zo.length zc] 29) := HS.out.grown KG.out (fun e => by injection e with e; omega)
        have HR9 : Hid (Rdd (((((((((((w7.setCell ⟨nX, 0, none⟩ (.int .i64 xv)).setCell ⟨nX, 1, none⟩ (.int .i64 xdh)).setCell ⟨nX, 2, none⟩ (.int .i64 xdr)).setCell ⟨nX, 3, none⟩ (.int .i64 xds)).setCell ⟨nX, 4, none⟩ (.string xdi)).setCell ⟨nX, 5, none⟩ (.int .i64 xmh)).setCell ⟨nX, 6, none⟩ (.int .i64 xmr)).setCell ⟨nX, 7, none⟩ (.int .i64 xms)).setCell ⟨nX, 8, none⟩ (.string xmi)).setCell ⟨nX, 9, none⟩ (.bool xp)).setCell ⟨nX, 10, none⟩ (.slice xa xo.length xc)) (nX + 1) ((((((((((((w7.setCell ⟨nX, 0, none⟩ (.int .i64 xv)).setCell ⟨nX, 1, none⟩ (.int .i64 xdh)).setCell ⟨nX, 2, none⟩ (.int .i64 xdr)).setCell ⟨nX, 3, none⟩ (.int .i64 xds)).setCell ⟨nX, 4, none⟩ (.string xdi)).setCell ⟨nX, 5, none⟩ (.int .i64 xmh)).setCell ⟨nX, 6, none⟩ (.int .i64 xmr)).setCell ⟨nX, 7, none⟩ (.int .i64 xms)).setCell ⟨nX, 8, none⟩ (.string xmi)).setCell ⟨nX, 9, none⟩ (.bool xp)).setCell ⟨nX, 10, none⟩ (.slice xa xo.length xc))).heap.size xo xa) := (HR.out.grown KG.out (fun j e => by injection e with e; omega)).up KG.out.size
        have HB9 : Hid (Below w.heap.size w (((((((((((w7.setCell ⟨nX, 0, none⟩ (.int .i64 xv)).setCell ⟨nX, 1, none⟩ (.int .i64 xdh)).setCell ⟨nX, 2, none⟩ (.int .i64 xdr)).setCell ⟨nX, 3, none⟩ (.int .i64 xds)).setCell ⟨nX, 4, none⟩ (.string xdi)).setCell ⟨nX, 5, none⟩ (.int .i64 xmh)).setCell ⟨nX, 6, none⟩ (.int .i64 xmr)).setCell ⟨nX, 7, none⟩ (.int .i64 xms)).setCell ⟨nX, 8, none⟩ (.string xmi)).setCell ⟨nX, 9, none⟩ (.bool xp)).setCell ⟨nX, 10, none⟩ (.slice xa xo.length xc))) := HB.out.grown KG.out HB.out.size (fun j e => by injection e with e; omega)
        clear KG HS HR HB
        have x_0 := HX.out.cell 0 rfl
        have x_1 := HX.out.cell 1 rfl
        have x_2 := HX.out.cell 2 rfl
        have x_3 := HX.out.cell 3 rfl
        have x_4 := HX.out.cell 4 rfl
        have x_5 := HX.out.cell 5 rfl
        have x_6 := HX.out.cell 6 rfl
        have x_7 := HX.out.cell 7 rfl
        have x_8 := HX.out.cell 8 rfl
        have x_9 := HX.out.cell 9 rfl
        have x_10 := HX.out.cell 10 rfl
        have x_f := fun j => HX.out.frozen j
        have y_0 := HY.out.cell 0 rfl
        have y_1 := HY.out.cell 1 rfl
        have y_2 := HY.out.cell 2 rfl
        have y_3 := HY.out.cell 3 rfl
        have y_4 := HY.out.cell 4 rfl
        have y_5 := HY.out.cell 5 rfl
        have y_6 := HY.out.cell 6 rfl
        have y_7 := HY.out.cell 7 rfl
        have y_8 := HY.out.cell 8 rfl
        have y_9 := HY.out.cell 9 rfl
        have y_10 := HY.out.cell 10 rfl
        clear HX HY
        go_wp2_with fail
        clear x_0 x_1 x_2 x_3 x_4 x_5 x_6 x_7 x_8 x_9 x_10 x_f y_0 y_1 y_2 y_3 y_4 y_5 y_6 y_7 y_8 y_9 y_10
        go_meet
        exact ⟨⟨xv, ⟨xdh, xdr, xds, xdi⟩, ⟨xmh, xmr, xms, xmi⟩, xp, xo⟩, xa, xc, HI9, hxl, HX9, HS9, HR9, HF9, HB9⟩
      · skip
        have kI := impl_fall ⟨zv, ⟨zdh, zdr, zds, zdi⟩, ⟨zmh, zmr, zms, zmi⟩, zp, zo⟩ za zc w4 HR4.out.1 HF.out.1 HF.out.2
        have HI9 : Hid (Inv (fallS ⟨zv, ⟨zdh, zdr, zds, zdi⟩, ⟨zmh, zmr, zms, zmi⟩, zp, zo⟩).1) := HI.out.fall
        have hxl := fallS_len2 ⟨zv, ⟨zdh, zdr, zds, zdi⟩, ⟨zmh, zmr, zms, zmi⟩, zp, zo⟩
        have ht := (fall_right HI.out.ok).2
        rw [ht] at kI
        clear ht
        generalize (fallS ⟨zv, ⟨zdh, zdr, zds, zdi⟩, ⟨zmh, zmr, zms, zmi⟩, zp, zo⟩).1 = x at *
        obtain ⟨xv, ⟨xdh, xdr, xds, xdi⟩, ⟨xmh, xmr, xms, xmi⟩, xp, xo⟩ := x
        unfold sV sQ at *
        simp only at *
        have s_0 := HS4.out.cell 0 rfl
        have s_1 := HS4.out.cell 1 rfl
        have s_2 := HS4.out.cell 2 rfl
        have s_3 := HS4.out.cell 3 rfl
        have s_4 := HS4.out.cell 4 rfl
        have s_5 := HS4.out.cell 5 rfl
        have s_6 := HS4.out.cell 6 rfl
        have s_7 := HS4.out.cell 7 rfl
        have s_8 := HS4.out.cell 8 rfl
        have s_9 := HS4.out.cell 9 rfl
        have s_10 := HS4.out.cell 10 rfl
        go_wp2_with fail
        clear s_0 s_1 s_2 s_3 s_4 s_5 s_6 s_7 s_8 s_9 s_10 
        refine kI.mono ?_
        rintro e w6 ⟨xa, xc, rfl, HQ, bb⟩
        have HF9 : Hid ((xa = none → xc = 0) ∧ xo.length ≤ xc ∧ xc ≤ 9223372036854775807) := OwnY.fit HQ.out
        have HR6 : Hid (Rdd w6 (nX + 1) w6.heap.size xo xa) := OwnY.rdd2 (own_less HQ.out (show nX + 1 ≤ _ from HX4.out.lt))
        have HX6 : Hid (Blk w6 nX [.int .i64 zv, .int .i64 zdh, .int .i64 zdr, .int .i64 zds, .string zdi, .int .i64 zmh, .int .i64 zmr, .int .i64 zms, .string zmi, .bool zp, .slice za zo.length zc] 29) := HX4.out.below bb HX4.out.lt
        have HS6 : Hid (Blk w6 w.heap.size [.int .i64 zv, .int .i64 zdh, .int .i64 zdr, .int .i64 zds, .string zdi, .int .i64 zmh, .int .i64 zmr, .int .i64 zms, .string zmi, .bool zp, .slice za zo.length zc] 29) := HS4.out.below bb HS4.out.lt
        have HV6 : Hid (Blk w6 nV [.int .i64 yh, .int .i64 yr, .int .i64 ys, .string yi, .int .i64 yv] 31) := HV4.out.below bb HV4.out.lt
        have HO6 : Hid (Rdd w6 (w.heap.size + 1) nV zo za) := HR4.out.below bb
        have HB6 : Hid (Below w.heap.size w w6) := HB4.out.trans (bb.mono HB4.out.size)
        obtain ⟨nY, hnY⟩ : ∃ n, w6.heap.size = n := ⟨_, rfl⟩
        rw [hnY] at HR6
        have hXY : nX < nY := by rw [← hnY]; exact HX6.out.lt
        clear kI HQ bb HX4 HS4 HV4 HR4 HB4
        obtain ⟨w7, hw7⟩ : ∃ W, w6.alloc (.cells #[.int .i64 xv, .int .i64 xdh, .int .i64 xdr, .int .i64 xds, .string xdi, .int .i64 xmh, .int .i64 xmr, .int .i64 xms, .string xmi, .bool xp, .slice xa xo.length xc] 29) = W := ⟨_, rfl⟩
        have HA7 : Hid (Below w6.heap.size w6 w7) := by rw [← hw7]; exact below_one _ _
        have HY7 : Hid (Blk w7 nY [.int .i64 xv, .int .i64 xdh, .int .i64 xdr, .int .i64 xds, .string xdi, .int .i64 xmh, .int .i64 xmr, .int .i64 xms, .string xmi, .bool xp, .slice xa xo.length xc] 29) := by rw [← hw7, ← hnY]; exact blk_new _ _ _
        have HX7 : Hid (Blk w7 nX [.int .i64 zv, .int .i64 zdh, .int .i64 zdr, .int .i64 zds, .string zdi, .int .i64 zmh, .int .i64 zmr, .int .i64 zms, .string zmi, .bool zp, .slice za zo.length zc] 29) := HX6.out.below HA7.out HX6.out.lt
        have HS7 : Hid (Blk w7 w.heap.size [.int .i64 zv, .int .i64 zdh, .int .i64 zdr, .int .i64 zds, .string zdi, .int .i64 zmh, .int .i64 zmr, .int .i64 zms, .string zmi, .bool zp, .slice za zo.length zc] 29) := HS6.out.below HA7.out HS6.out.lt
        have HV7 : Hid (Blk w7 nV [.int .i64 yh, .int .i64 yr, .int .i64 ys, .string yi, .int .i64 yv] 31) := HV6.out.below HA7.out HV6.out.lt
        have HO7 : Hid (Rdd w7 (w.heap.size + 1) nV zo za) := HO6.out.below HA7.out
        have HR7 : Hid (Rdd w7 (nX + 1) nY xo xa) := HR6.out.below HA7.out
        have HB7 : Hid (Below w.heap.size w w7) := HB6.out.trans (HA7.out.mono HB6.out.size)
        have hY7 : nY ≤ w7.heap.size := Nat.le_of_lt HY7.out.lt
        clear HX6 HS6 HV6 HO6 HR6 HB6 HA7
        have HX : Hid (Blk w7 nX [.int .i64 zv, .int .i64 zdh, .int .i64 zdr, .int .i64 zds, .string zdi, .int .i64 zmh, .int .i64 zmr, .int .i64 zms, .string zmi, .bool zp, .slice za zo.length zc] 29) := HX7
        have HY : Hid (Blk w7 nY [.int .i64 xv, .int .i64 xdh, .int .i64 xdr, .int .i64 xds, .string xdi, .int .i64 xmh, .int .i64 xmr, .int .i64 xms, .string xmi, .bool xp, .slice xa xo.length xc] 29) := HY7
        have HS : Hid (Blk w7 w.heap.size [.int .i64 zv, .int .i64 zdh, .int .i64 zdr, .int .i64 zds, .string zdi, .int .i64 zmh, .int .i64 zmr, .int .i64 zms, .string zmi, .bool zp, .slice za zo.length zc] 29) := HS7
        have HR : Hid (Rdd w7 (nX + 1) w7.heap.size xo xa) := HR7.out.up hY7
        have HB : Hid (Below w.heap.size w w7) := HB7
        clear HX7 HY7 HS7 HR7 HB7 HV7 HO7 hY7
        have KG : Hid (w7.grownBy (((((((((((w7.setCell ⟨nX, 0, none⟩ (.int .i64 xv)).setCell ⟨nX, 1, none⟩ (.int .i64 xdh)).setCell ⟨nX, 2, none⟩ (.int .i64 xdr)).setCell ⟨nX, 3, none⟩ (.int .i64 xds)).setCell ⟨nX, 4, none⟩ (.string xdi)).setCell ⟨nX, 5, none⟩ (.int .i64 xmh)).setCell ⟨nX, 6, none⟩ (.int .i64 xmr)).setCell ⟨nX, 7, none⟩ (.int .i64 xms)).setCell ⟨nX, 8, none⟩ (.string xmi)).setCell ⟨nX, 9, none⟩ (.bool xp)).setCell ⟨nX, 10, none⟩ (.slice xa xo.length xc)) (some nX)) := grown_set (grown_set (grown_set (grown_set (grown_set (grown_set (grown_set (grown_set (grown_set (grown_set (grown_set (grown_refl _ _) _) _) _) _) _) _) _) _) _) _) _
        have HX9 : Hid (Blk (((((((((((w7.setCell ⟨nX, 0, none⟩ (.int .i64 xv)).setCell ⟨nX, 1, none⟩ (.int .i64 xdh)).setCell ⟨nX, 2, none⟩ (.int .i64 xdr)).setCell ⟨nX, 3, none⟩ (.int .i64 xds)).setCell ⟨nX, 4, none⟩ (.string xdi)).setCell ⟨nX, 5, none⟩ (.int .i64 xmh)).setCell ⟨nX, 6, none⟩ (.int .i64 xmr)).setCell ⟨nX, 7, none⟩ (.int .i64 xms)).setCell ⟨nX, 8, none⟩ (.string xmi)).setCell ⟨nX, 9, none⟩ (.bool xp)).setCell ⟨nX, 10, none⟩ (.slice xa xo.length xc)) nX [.int .i64 xv, .int .i64 xdh, .int .i64 xdr, .int .i64 xds, .string xdi, .int .i64 xmh, .int .i64 xmr, .int .i64 xms, .string xmi, .bool xp, .slice xa xo.length xc] 29) := (((((((((((HX.out.set 0 (.int .i64 xv)).set 1 (.int .i64 xdh)).set 2 (.int .i64 xdr)).set 3 (.int .i64 xds)).set 4 (.string xdi)).set 5 (.int .i64 xmh)).set 6 (.int .i64 xmr)).set 7 (.int .i64 xms)).set 8 (.string xmi)).set 9 (.bool xp)).set 10 (.slice xa xo.length xc))
        have HS9 : Hid (Blk (((((((((((w7.setCell ⟨nX, 0, none⟩ (.int .i64 xv)).setCell ⟨nX, 1, none⟩ (.int .i64 xdh)).setCell ⟨nX, 2, none⟩ (.int .i64 xdr)).setCell ⟨nX, 3, none⟩ (.int .i64 xds)).setCell ⟨nX, 4, none⟩ (.string xdi)).setCell ⟨nX, 5, none⟩ (.int .i64 xmh)).setCell ⟨nX, 6, none⟩ (.int .i64 xmr)).setCell ⟨nX, 7, none⟩ (.int .i64 xms)).setCell ⟨nX, 8, none⟩ (.string xmi)).setCell ⟨nX, 9, none⟩ (.bool xp)).setCell ⟨nX, 10, none⟩ (.slice xa xo.length xc)) w.heap.size [.int .i64 zv, .int .i64 zdh, .int .i64 zdr, .int .i64 zds, .string zdi, .int .i64 zmh, .int .i64 zmr, .int .i64 zms, .string zmi, .bool zp, .slice za zo.length zc] 29) := HS.out.grown KG.out (fun e => by injection e with e; omega)
        have HR9 : Hid (Rdd (((((((((((w7.setCell ⟨nX, 0, none⟩ (.int .i64 xv)).setCell ⟨nX, 1, none⟩ (.int .i64 xdh)).setCell ⟨nX, 2, none⟩ (.int .i64 xdr)).setCell ⟨nX, 3, none⟩ (.int .i64 xds)).setCell ⟨nX, 4, none⟩ (.string xdi)).setCell ⟨nX, 5, none⟩ (.int .i64 xmh)).setCell ⟨nX, 6, none⟩ (.int .i64 xmr)).setCell ⟨nX, 7, none⟩ (.int .i64 xms)).setCell ⟨nX, 8, none⟩ (.string xmi)).setCell ⟨nX, 9, none⟩ (.bool xp)).setCell ⟨nX, 10, none⟩ (.slice xa xo.length xc)) (nX + 1) ((((((((((((w7.setCell ⟨nX, 0, none⟩ (.int .i64 xv)).setCell ⟨nX, 1, none⟩ (.int .i64 xdh)).setCell ⟨nX, 2, none⟩ (.int .i64 xdr)).setCell ⟨nX, 3, none⟩ (.int .i64 xds)).setCell ⟨nX, 4, none⟩ (.string xdi)).setCell ⟨nX, 5, none⟩ (.int .i64 xmh)).setCell ⟨nX, 6, none⟩ (.int .i64 xmr)).setCell ⟨nX, 7, none⟩ (.int .i64 xms)).setCell ⟨nX, 8, none⟩ (.string xmi)).setCell ⟨nX, 9, none⟩ (.bool xp)).setCell ⟨nX, 10, none⟩ (.slice xa xo.length xc))).heap.size xo xa) := (HR.out.grown KG.out (fun j e => by injection e with e; omega)).up KG.out.size
        have HB9 : Hid (Below w.heap.size w (((((((((((w7.setCell ⟨nX, 0, none⟩ (.int .i64 xv)).setCell ⟨nX, 1, none⟩ (.int .i64 xdh)).setCell ⟨nX, 2, none⟩ (.int .i64 xdr)).setCell ⟨nX, 3, none⟩ (.int .i64 xds)).setCell ⟨nX, 4, none⟩ (.string xdi)).setCell ⟨nX, 5, none⟩ (.int .i64 xmh)).setCell ⟨nX, 6, none⟩ (.int .i64 xmr)).setCell ⟨nX, 7, none⟩ (.int .i64 xms)).setCell ⟨nX, 8, none⟩ (.string xmi)).setCell ⟨nX, 9, none⟩ (.bool xp)).setCell ⟨nX, 10, none⟩ (.slice xa xo.length xc))) := HB.out.grown KG.out HB.out.size (fun j e => by injection e with e; omega)
        clear KG HS HR HB
        have x_0 := HX.out.cell 0 rfl
        have x_1 := HX.out.cell 1 rfl
        have x_2 := HX.out.cell 2 rfl
        have x_3 := HX.out.cell 3 rfl
        have x_4 := HX.out.cell 4 rfl
        have x_5 := HX.out.cell 5 rfl
        have x_6 := HX.out.cell 6 rfl
        have x_7 := HX.out.cell 7 rfl
        have x_8 := HX.out.cell 8 rfl
        have x_9 := HX.out.cell 9 rfl
        have x_10 := HX.out.cell 10 rfl
        have x_f := fun j => HX.out.frozen j
        have y_0 := HY.out.cell 0 rfl
        have y_1 := HY.out.cell 1 rfl
        have y_2 := HY.out.cell 2 rfl
        have y_3 := HY.out.cell 3 rfl
        have y_4 := HY.out.cell 4 rfl
        have y_5 := HY.out.cell 5 rfl
        have y_6 := HY.out.cell 6 rfl
        have y_7 := HY.out.cell 7 rfl
        have y_8 := HY.out.cell 8 rfl
        have y_9 := HY.out.cell 9 rfl
        have y_10 := HY.out.cell 10 rfl
        clear HX HY
        go_wp2_with fail
        clear x_0 x_1 x_2 x_3 x_4 x_5 x_6 x_7 x_8 x_9 x_10 x_f y_0 y_1 y_2 y_3 y_4 y_5 y_6 y_7 y_8 y_9 y_10
        go_meet
        exact ⟨⟨xv, ⟨xdh, xdr, xds, xdi⟩, ⟨xmh, xmr, xms, xmi⟩, xp, xo⟩, xa, xc, HI9, hxl, HX9, HS9, HR9, HF9, HB9⟩
    case rest =>
    clear HX4 HV4 HS4 HR4 HB4 HF HI ha0 ha1
    obtain ⟨x, xa, xc, HI, hxl, HX, HS, HR, HF, HB⟩ := hcut
    rename World => w5
    have hx60 : x.o.length + 1 ≤ i + 1 := by omega
    have hx59 : x.o.length ≤ 59 := by omega
    clear hxl hzl
    have kS := fun W (h : YO W xa x.o) => spec_sok x xa xc W h (by omega)
    simp only [HI.out.ok] at kS
    have HPR : Hid (∀ (p q : Nat) (hp : p < x.o.length) (hq : q < x.o.length), x.o[p].h = x.o[q].h → x.o[p].r = x.o[q].r → x.o[p].s = x.o[q].s → x.o[p].i = x.o[q].i) := fun p q hp hq h0 h1 h2 => HI.out.pair hp hq h0 h1 h2
    obtain ⟨xv, ⟨xdh, xdr, xds, xdi⟩, ⟨xmh, xmr, xms, xmi⟩, xp, xo⟩ := x
    have HI9 : Hid (Inv ⟨xv, ⟨xdh, xdr, xds, xdi⟩, ⟨xmh, xmr, xms, xmi⟩, xp, xo⟩) := HI
    clear HI
    unfold sL at HX
    unfold sV sQ at kS
    simp only at *
    have HX : Hid (Blk w5 nX [.int .i64 xv, .int .i64 xdh, .int .i64 xdr, .int .i64 xds, .string xdi, .int .i64 xmh, .int .i64 xmr, .int .i64 xms, .string xmi, .bool xp, .slice xa xo.length xc] 29) := HX
    have KG : Hid (w5.grownBy (((((((((((w5.setCell ⟨w.heap.size, 0, none⟩ (.int .i64 xv)).setCell ⟨w.heap.size, 1, none⟩ (.int .i64 xdh)).setCell ⟨w.heap.size, 2, none⟩ (.int .i64 xdr)).setCell ⟨w.heap.size, 3, none⟩ (.int .i64 xds)).setCell ⟨w.heap.size, 4, none⟩ (.string xdi)).setCell ⟨w.heap.size, 5, none⟩ (.int .i64 xmh)).setCell ⟨w.heap.size, 6, none⟩ (.int .i64 xmr)).setCell ⟨w.heap.size, 7, none⟩ (.int .i64 xms)).setCell ⟨w.heap.size, 8, none⟩ (.string xmi)).setCell ⟨w.heap.size, 9, none⟩ (.bool xp)).setCell ⟨w.heap.size, 10, none⟩ (.slice xa xo.length xc)) (some w.heap.size)) := grown_set (grown_set (grown_set (grown_set (grown_set (grown_set (grown_set (grown_set (grown_set (grown_set (grown_set (grown_refl _ _) _) _) _) _) _) _) _) _) _) _) _
    have HS6 : Hid (Blk (((((((((((w5.setCell ⟨w.heap.size, 0, none⟩ (.int .i64 xv)).setCell ⟨w.heap.size, 1, none⟩ (.int .i64 xdh)).setCell ⟨w.heap.size, 2, none⟩ (.int .i64 xdr)).setCell ⟨w.heap.size, 3, none⟩ (.int .i64 xds)).setCell ⟨w.heap.size, 4, none⟩ (.string xdi)).setCell ⟨w.heap.size, 5, none⟩ (.int .i64 xmh)).setCell ⟨w.heap.size, 6, none⟩ (.int .i64 xmr)).setCell ⟨w.heap.size, 7, none⟩ (.int .i64 xms)).setCell ⟨w.heap.size, 8, none⟩ (.string xmi)).setCell ⟨w.heap.size, 9, none⟩ (.bool xp)).setCell ⟨w.heap.size, 10, none⟩ (.slice xa xo.length xc)) w.heap.size [.int .i64 xv, .int .i64 xdh, .int .i64 xdr, .int .i64 xds, .string xdi, .int .i64 xmh, .int .i64 xmr, .int .i64 xms, .string xmi, .bool xp, .slice xa xo.length xc] 29) := (((((((((((HS.out.set 0 (.int .i64 xv)).set 1 (.int .i64 xdh)).set 2 (.int .i64 xdr)).set 3 (.int .i64 xds)).set 4 (.string xdi)).set 5 (.int .i64 xmh)).set 6 (.int .i64 xmr)).set 7 (.int .i64 xms)).set 8 (.string xmi)).set 9 (.bool xp)).set 10 (.slice xa xo.length xc))
    have HR6 : Hid (Rdd (((((((((((w5.setCell ⟨w.heap.size, 0, none⟩ (.int .i64 xv)).setCell ⟨w.heap.size, 1, none⟩ (.int .i64 xdh)).setCell ⟨w.heap.size, 2, none⟩ (.int .i64 xdr)).setCell ⟨w.heap.size, 3, none⟩ (.int .i64 xds)).setCell ⟨w.heap.size, 4, none⟩ (.string xdi)).setCell ⟨w.heap.size, 5, none⟩ (.int .i64 xmh)).setCell ⟨w.heap.size, 6, none⟩ (.int .i64 xmr)).setCell ⟨w.heap.size, 7, none⟩ (.int .i64 xms)).setCell ⟨w.heap.size, 8, none⟩ (.string xmi)).setCell ⟨w.heap.size, 9, none⟩ (.bool xp)).setCell ⟨w.heap.size, 10, none⟩ (.slice xa xo.length xc)) (w.heap.size + 1) ((((((((((((w5.setCell ⟨w.heap.size, 0, none⟩ (.int .i64 xv)).setCell ⟨w.heap.size, 1, none⟩ (.int .i64 xdh)).setCell ⟨w.heap.size, 2, none⟩ (.int .i64 xdr)).setCell ⟨w.heap.size, 3, none⟩ (.int .i64 xds)).setCell ⟨w.heap.size, 4, none⟩ (.string xdi)).setCell ⟨w.heap.size, 5, none⟩ (.int .i64 xmh)).setCell ⟨w.heap.size, 6, none⟩ (.int .i64 xmr)).setCell ⟨w.heap.size, 7, none⟩ (.int .i64 xms)).setCell ⟨w.heap.size, 8, none⟩ (.string xmi)).setCell ⟨w.heap.size, 9, none⟩ (.bool xp)).setCell ⟨w.heap.size, 10, none⟩ (.slice xa xo.length xc))).heap.size xo xa) := ((HR.out.grown KG.out (fun j e => by injection e with e; omega)).up KG.out.size).less (by omega)
    have HB6 : Hid (Below w.heap.size w (((((((((((w5.setCell ⟨w.heap.size, 0, none⟩ (.int .i64 xv)).setCell ⟨w.heap.size, 1, none⟩ (.int .i64 xdh)).setCell ⟨w.heap.size, 2, none⟩ (.int .i64 xdr)).setCell ⟨w.heap.size, 3, none⟩ (.int .i64 xds)).setCell ⟨w.heap.size, 4, none⟩ (.string xdi)).setCell ⟨w.heap.size, 5, none⟩ (.int .i64 xmh)).setCell ⟨w.heap.size, 6, none⟩ (.int .i64 xmr)).setCell ⟨w.heap.size, 7, none⟩ (.int .i64 xms)).setCell ⟨w.heap.size, 8, none⟩ (.string xmi)).setCell ⟨w.heap.size, 9, none⟩ (.bool xp)).setCell ⟨w.heap.size, 10, none⟩ (.slice xa xo.length xc))) := HB.out.grown KG.out HB.out.size (fun j e => by injection e with e; omega)
    clear KG HR HB
    have x_0 := HX.out.cell 0 rfl
    have x_1 := HX.out.cell 1 rfl
    have x_2 := HX.out.cell 2 rfl
    have x_3 := HX.out.cell 3 rfl
    have x_4 := HX.out.cell 4 rfl
    have x_5 := HX.out.cell 5 rfl
    have x_6 := HX.out.cell 6 rfl
    have x_7 := HX.out.cell 7 rfl
    have x_8 := HX.out.cell 8 rfl
    have x_9 := HX.out.cell 9 rfl
    have x_10 := HX.out.cell 10 rfl
    have s_0 := HS.out.cell 0 rfl
    have s_1 := HS.out.cell 1 rfl
    have s_2 := HS.out.cell 2 rfl
    have s_3 := HS.out.cell 3 rfl
    have s_4 := HS.out.cell 4 rfl
    have s_5 := HS.out.cell 5 rfl
    have s_6 := HS.out.cell 6 rfl
    have s_7 := HS.out.cell 7 rfl
    have s_8 := HS.out.cell 8 rfl
    have s_9 := HS.out.cell 9 rfl
    have s_10 := HS.out.cell 10 rfl
    have s_f := fun j => HS.out.frozen j
    clear HX HS
    go_upto_region 28 with fail
    clear x_0 x_1 x_2 x_3 x_4 x_5 x_6 x_7 x_8 x_9 x_10 s_0 s_1 s_2 s_3 s_4 s_5 s_6 s_7 s_8 s_9 s_10 s_f
    generalize (((((((((((w5.setCell ⟨w.heap.size, 0, none⟩ (.int .i64 xv)).setCell ⟨w.heap.size, 1, none⟩ (.int .i64 xdh)).setCell ⟨w.heap.size, 2, none⟩ (.int .i64 xdr)).setCell ⟨w.heap.size, 3, none⟩ (.int .i64 xds)).setCell ⟨w.heap.size, 4, none⟩ (.string xdi)).setCell ⟨w.heap.size, 5, none⟩ (.int .i64 xmh)).setCell ⟨w.heap.size, 6, none⟩ (.int .i64 xmr)).setCell ⟨w.heap.size, 7, none⟩ (.int .i64 xms)).setCell ⟨w.heap.size, 8, none⟩ (.string xmi)).setCell ⟨w.heap.size, 9, none⟩ (.bool xp)).setCell ⟨w.heap.size, 10, none⟩ (.slice xa xo.length xc)) = w6 at *
    have s_0 := HS6.out.cell 0 rfl
    have s_1 := HS6.out.cell 1 rfl
    have s_2 := HS6.out.cell 2 rfl
    have s_3 := HS6.out.cell 3 rfl
    have s_4 := HS6.out.cell 4 rfl
    have s_5 := HS6.out.cell 5 rfl
    have s_6 := HS6.out.cell 6 rfl
    have s_7 := HS6.out.cell 7 rfl
    have s_8 := HS6.out.cell 8 rfl
    have s_9 := HS6.out.cell 9 rfl
    have s_10 := HS6.out.cell 10 rfl
    go_wp2_with fail
    clear s_0 s_1 s_2 s_3 s_4 s_5 s_6 s_7 s_8 s_9 s_10
    refine (kS _ HR6.out.1).mono ?_
    rintro e w7 ⟨rfl, bb⟩
    have HS7 : Hid (Blk w7 w.heap.size [.int .i64 xv, .int .i64 xdh, .int .i64 xdr, .int .i64 xds, .string xdi, .int .i64 xmh, .int .i64 xmr, .int .i64 xms, .string xmi, .bool xp, .slice xa xo.length xc] 29) := HS6.out.below bb HS6.out.lt
    have HR7 : Hid (Rdd w7 (w.heap.size + 1) w7.heap.size xo xa) := (HR6.out.below bb).up bb.size
    have HB7 : Hid (Below w.heap.size w w7) := HB6.out.trans (bb.mono HB6.out.size)
    clear HS6 HR6 HB6 bb kS
    have hS7 : w.heap.size < w7.heap.size := HS7.out.lt
    go_wp2
    go_loopw [15] (fun av wa => ∃ p : Nat, av = .int .i64 (p : Int) ∧ p ≤ xo.length ∧ Hid (Below w7.heap.size w7 wa)) (fun av _ => xo.length - (intOf av).toNat)
    case atStart => exact ⟨0, rfl, Nat.zero_le _, Below.refl _ _⟩
    case round =>
      obtain ⟨p, rfl, hp, HBa⟩ := hrel
      have s10 : wr.cell? ⟨w.heap.size, 10, none⟩ = some (.slice xa xo.length xc) := (HS7.out.below HBa.out hS7).cell 10 rfl
      by_cases hpl : p < xo.length
      rotate_left
      · have hplz : ¬ (p : Int) < (xo.length : Int) := by omega
        have HSe : Hid (Blk wr w.heap.size [.int .i64 xv, .int .i64 xdh, .int .i64 xdr, .int .i64 xds, .string xdi, .int .i64 xmh, .int .i64 xmr, .int .i64 xms, .string xmi, .bool xp, .slice xa xo.length xc] 29) := HS7.out.below HBa.out hS7
        have HRe : Hid (Rdd wr (w.heap.size + 1) wr.heap.size xo xa) := (HR7.out.below HBa.out).up HBa.out.size
        have HBe : Hid (Below w.heap.size w wr) := HB7.out.trans (HBa.out.mono HB7.out.size)
        clear HS7 HR7 HB7 HPR
        go_wp2
        clear s10
        go_roundw
        case rel => first | exact ⟨i + 1, ⟨xv, ⟨xdh, xdr, xds, xdi⟩, ⟨xmh, xmr, xms, xmi⟩, xp, xo⟩, xa, xc, rfl, by omega, by omega, hx60, HI9, HSe, HRe, HF, HBe⟩ | exact ⟨i + 1, ⟨xv, ⟨xdh, xdr, xds, xdi⟩, ⟨xmh, xmr, xms, xmi⟩, xp, xo⟩, xa, xc, (by congr 1), by omega, by omega, hx60, HI9, HSe, HRe, HF, HBe⟩
        case measure => simp [intOf] <;> omega
      have hplz : (p : Int) < (xo.length : Int) := by omega
      obtain ⟨b, off, rfl, hv0⟩ : ∃ b off, xa = some ⟨b, off, none⟩ ∧ YAt w7 b off xo := by
        rcases HR7.out.1 with h | ⟨b, off, e, h⟩
        · omega
        · exact ⟨b, off, e, h⟩
      have HVA : Hid (YAt w7 b off xo ∧ b < w7.heap.size) := ⟨hv0, hv0.lt (by omega)⟩
      clear hv0
      go_wp2
      clear s10
      rename World => wr1
      go_loopw [16] (fun bv wb => ∃ q : Nat, bv = .int .i64 (q : Int) ∧ q ≤ p ∧ Hid (Below w7.heap.size w7 wb)) (fun bv _ => p - (intOf bv).toNat)
      case atStart => exact ⟨0, rfl, Nat.zero_le _, HBa⟩
      case round =>
        obtain ⟨q, rfl, hq, HBb⟩ := hrel
        by_cases hql : q < p
        rotate_left
        · have hqlz : ¬ (q : Int) < (p : Int) := by omega
          go_wp2
          go_roundw
          case rel => first | exact ⟨p + 1, rfl, by omega, HBb⟩ | exact ⟨p + 1, (by congr 1), by omega, HBb⟩
          case measure => simp [intOf] <;> omega
        have hqlz : (q : Int) < (p : Int) := by omega
        have hqlz2 : (q : Int) < (xo.length : Int) := by omega
        have s10 : wr.cell? ⟨w.heap.size, 10, none⟩ = some (.slice (some ⟨b, off, none⟩) xo.length xc) := (HS7.out.below HBb.out hS7).cell 10 rfl
        have hcp := (HVA.out.1.below HBb.out HVA.out.2).five p hpl
        have hbw : b < wr.heap.size := Nat.lt_of_lt_of_le HVA.out.2 HBb.out.size
        have hSw : w.heap.size < wr.heap.size := Nat.lt_of_lt_of_le hS7 HBb.out.size
        have hcq0 := (HVA.out.1.below HBb.out HVA.out.2).five q (by omega)
        have HPQ : Hid (xo[p].h = xo[q].h → xo[p].r = xo[q].r → xo[p].s = xo[q].s → xo[p].i = xo[q].i) := HPR.out p q hpl (by omega)
        generalize xo[p] = P at *
        generalize xo[q] = Q at *
        obtain ⟨ph, pr, ps, pi, pv⟩ := P
        obtain ⟨qh, qr, qs, qi, qv⟩ := Q
        simp only at hcp hcq0 HPQ
        obtain ⟨p0, p1, p2, p3, p4⟩ := hcp
        obtain ⟨nP, hnP⟩ : ∃ n, wr.heap.size = n := ⟨_, rfl⟩
        obtain ⟨w8, hw8⟩ : ∃ W, wr.alloc (.cells #[.int .i64 ph, .int .i64 pr, .int .i64 ps, .string pi, .int .i64 pv] 31) = W := ⟨_, rfl⟩
        have HA8 : Hid (Below wr.heap.size wr w8) := by rw [← hw8]; exact below_one _ _
        have HP8 : Hid (Blk w8 nP [.int .i64 ph, .int .i64 pr, .int .i64 ps, .string pi, .int .i64 pv] 31) := by rw [← hw8, ← hnP]; exact blk_new _ _ _
        have s11 : w8.cell? ⟨w.heap.size, 10, none⟩ = some (.slice (some ⟨b, off, none⟩) xo.length xc) := (HA8.out.cell (p := ⟨w.heap.size, 10, none⟩) hSw).trans s10
        obtain ⟨q0, q1, q2, q3, q4⟩ := hcq0
        have q0 := (HA8.out.cell (p := ⟨b, off + q * 5, none⟩) hbw).trans q0
        have q1 := (HA8.out.cell (p := ⟨b, off + q * 5 + 1, none⟩) hbw).trans q1
        have q2 := (HA8.out.cell (p := ⟨b, off + q * 5 + 2, none⟩) hbw).trans q2
        have q3 := (HA8.out.cell (p := ⟨b, off + q * 5 + 3, none⟩) hbw).trans q3
        have q4 := (HA8.out.cell (p := ⟨b, off + q * 5 + 4, none⟩) hbw).trans q4
        obtain ⟨nQ, hnQ⟩ : ∃ n, w8.heap.size = n := ⟨_, rfl⟩
        obtain ⟨w9, hw9⟩ : ∃ W, w8.alloc (.cells #[.int .i64 qh, .int .i64 qr, .int .i64 qs, .string qi, .int .i64 qv] 31) = W := ⟨_, rfl⟩
        have HA9 : Hid (Below w8.heap.size w8 w9) := by rw [← hw9]; exact below_one _ _
        have HQ9 : Hid (Blk w9 nQ [.int .i64 qh, .int .i64 qr, .int .i64 qs, .string qi, .int .i64 qv] 31) := by rw [← hw9, ← hnQ]; exact blk_new _ _ _
        have HP9 : Hid (Blk w9 nP [.int .i64 ph, .int .i64 pr, .int .i64 ps, .string pi, .int .i64 pv] 31) := HP8.out.below HA9.out HP8.out.lt
        have HBc : Hid (Below w7.heap.size w7 w9) := (HBb.out.trans (HA8.out.mono HBb.out.size)).trans (HA9.out.mono (Nat.le_trans HBb.out.size HA8.out.size))
        clear HA8 HP8 HA9 HBb
        have pp_0 := HP9.out.cell 0 rfl
        have pp_1 := HP9.out.cell 1 rfl
        have pp_2 := HP9.out.cell 2 rfl
        have pp_3 := HP9.out.cell 3 rfl
        have pp_4 := HP9.out.cell 4 rfl
        have qq_0 := HQ9.out.cell 0 rfl
        have qq_1 := HQ9.out.cell 1 rfl
        have qq_2 := HQ9.out.cell 2 rfl
        have qq_3 := HQ9.out.cell 3 rfl
        have qq_4 := HQ9.out.cell 4 rfl
        clear HP9 HQ9
        by_cases e0 : ph = qh
        · by_cases e1 : pr = qr
          · by_cases e2 : ps = qs
            · have e3 : pi = qi := HPQ.out e0 e1 e2
              subst e0; subst e1; subst e2; subst e3
              go_wp2
              clear s10 s11 p0 p1 p2 p3 p4 q0 q1 q2 q3 q4 hw8 hw9 hnP hnQ pp_0 pp_1 pp_2 pp_3 pp_4 qq_0 qq_1 qq_2 qq_3 qq_4
              go_roundw
              case rel => first | exact ⟨q + 1, rfl, by omega, HBc⟩ | exact ⟨q + 1, (by congr 1), by omega, HBc⟩
              case measure => simp [intOf] <;> omega
            · subst e0; subst e1
              go_wp2
              clear s10 s11 p0 p1 p2 p3 p4 q0 q1 q2 q3 q4 hw8 hw9 hnP hnQ pp_0 pp_1 pp_2 pp_3 pp_4 qq_0 qq_1 qq_2 qq_3 qq_4
              go_roundw
              case rel => first | exact ⟨q + 1, rfl, by omega, HBc⟩ | exact ⟨q + 1, (by congr 1), by omega, HBc⟩
              case measure => simp [intOf] <;> omega
          · subst e0
            go_wp2
            clear s10 s11 p0 p1 p2 p3 p4 q0 q1 q2 q3 q4 hw8 hw9 hnP hnQ pp_0 pp_1 pp_2 pp_3 pp_4 qq_0 qq_1 qq_2 qq_3 qq_4
            go_roundw
            case rel => first | exact ⟨q + 1, rfl, by omega, HBc⟩ | exact ⟨q + 1, (by congr 1), by omega, HBc⟩
            case measure => simp [intOf] <;> omega
        · skip
          go_wp2
          clear s10 s11 p0 p1 p2 p3 p4 q0 q1 q2 q3 q4 hw8 hw9 hnP hnQ pp_0 pp_1 pp_2 pp_3 pp_4 qq_0 qq_1 qq_2 qq_3 qq_4
          go_roundw
          case rel => first | exact ⟨q + 1, rfl, by omega, HBc⟩ | exact ⟨q + 1, (by congr 1), by omega, HBc⟩
          case measure => simp [intOf] <;> omega
end Go.Proofs.Ytmjlpdmdpagggaa
