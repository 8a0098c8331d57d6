/- What spec.l9Some draws, as far as the laws ask; old memory stays but for the cursor. Conditions: a code of at most 2 to the 20 bytes. -/
import Derived.Test.YtbpmjejmeaifbaaGreatDoorMI
import Derived.Deep.RegionHeld3
import Derived.Deep.DeepCutAuto
import Derived.Deep.CutBlock
import Derived.Deep.LoopGhost
namespace Go.Proofs.YtbpmjejmeaifbaaGreatDoor
open Go.RowKit
open Num
set_option linter.unusedVariables false
set_option maxHeartbeats 6400000 in
set_option maxRecDepth 100000 in
theorem some9_d (g B : Nat) (w : World) (hd : DS w g B) (hB : B ≤ w.heap.size) :
    Calls Tryz.prog 23 #[.pointer (some ⟨g, 0, none⟩)] w fun e w' => ∃ (a : Option Addr) (cap : Nat) (l : List V) (y : H) (x : Ct) (b : Option Addr) (cp : Nat), e = .returned (.tuple #[.slice a l.length cap, hV y, cV x b cp]) ∧ Hid (VO w' a l ∧ l.length ≤ 8 ∧ ∀ b' o, a = some ⟨b', o, none⟩ → w.heap.size ≤ b') ∧ Hid (DrH y) ∧ Hid (DrC x) ∧ Hid (SO w' b x.l ∧ ∀ b' o, b = some ⟨b', o, none⟩ → w.heap.size ≤ b') ∧ Hid (DS w' g B) ∧ Hid (w.grownBy w' (some g)) := by
  have hgw : g < w.heap.size := hd.lt'
  obtain ⟨i0, hinf, hz0, hz1, hz2⟩ := infoSf
  obtain ⟨i3, hinf3, hy0, hy1, hy2⟩ := info3f
  obtain ⟨w0, hw0⟩ : ∃ W, (w.alloc (.cells [.int .i64 0, .int .i64 0, .string ⟨#[]⟩, .string ⟨#[]⟩, .string ⟨#[]⟩, .string ⟨#[]⟩].toArray 26)).alloc (.cells [.int .i64 0, .int .i64 0, .string ⟨#[]⟩, .slice none 0 0].toArray 29) = W := ⟨_, rfl⟩
  have HP6 : Hid (Blk w0 w.heap.size [.int .i64 0, .int .i64 0, .string ⟨#[]⟩, .string ⟨#[]⟩, .string ⟨#[]⟩, .string ⟨#[]⟩] 26) := by rw [← hw0]; exact (blk_new w _ _).alloc _
  have HP4 : Hid (Blk w0 (w.heap.size + 1) [.int .i64 0, .int .i64 0, .string ⟨#[]⟩, .slice none 0 0] 29) := by
    rw [← hw0]
    have h := blk_new (w.alloc (.cells [.int .i64 0, .int .i64 0, .string ⟨#[]⟩, .string ⟨#[]⟩, .string ⟨#[]⟩, .string ⟨#[]⟩].toArray 26)) [.int .i64 0, .int .i64 0, .string ⟨#[]⟩, .slice none 0 0] 29
    rw [show (w.alloc (.cells [.int .i64 0, .int .i64 0, .string ⟨#[]⟩, .string ⟨#[]⟩, .string ⟨#[]⟩, .string ⟨#[]⟩].toArray 26)).heap.size = w.heap.size + 1 by simp] at h; exact h
  have HB0 : Hid (Below w.heap.size w w0) := by rw [← hw0]; exact below_two _ _ _
  have HD0 : Hid (DS w0 g B) := hd.below (HB0.out.mono hB)
  have HG0 : Hid (w.grownBy w0 (some g)) := gr_below (gr_refl w _) HB0.out
  have hs0 : w.heap.size + 1 < w0.heap.size := HP4.out.lt
  clear hd HB0
  go_enter Tryz.func23, Tryz.ntmps23
  go_wp2_with fail
  clear hw0
  refine (some_d g B w0 HD0.out (by omega)).mono ?_
  rintro e w1 ⟨v, l, rfl, HV1, HL1, HD1, HG1⟩
  obtain ⟨va, vc, rfl, hVO1, hVb⟩ := OwnV.sl HV1.out
  have HVO1 : Hid (VO w1 va l) := hVO1
  have HVb : Hid (∀ b o, va = some ⟨b, o, none⟩ → b ≠ g) := fun b o e => by have := hVb b o e; omega
  have HVc : Hid (∀ b o, va = some ⟨b, o, none⟩ → w0.heap.size ≤ b) := fun b o e => (hVb b o e).1
  have HVl : Hid (∀ b o, va = some ⟨b, o, none⟩ → b < w1.heap.size) := fun b o e => (hVb b o e).2
  have hll : l.length ≤ 4 := HL1.out.2.1
  have hs1 := HG1.out.size
  clear HV1 hVO1 hVb HD0
  go_wp2_with fail
  refine (head_d g B w1 HD1.out (by omega)).mono ?_
  rintro e w2 ⟨y, rfl, HY, HD2, HG2⟩
  have hs2 := HG2.out.size
  obtain ⟨yh, yt, ya, yv, yn, yd⟩ := y
  unfold hV
  have HVO3 : Hid (VO (w2.alloc (.cells [.int .i64 yh, .int .i64 yt, .string ya, .string yv, .string yn, .string yd].toArray 26)) va l) := (HVO1.out.gr (B := B) HG2.out HVb.out).below (below_one _ _)
  have HH3 : Hid (Blk (w2.alloc (.cells [.int .i64 yh, .int .i64 yt, .string ya, .string yv, .string yn, .string yd].toArray 26)) w2.heap.size [.int .i64 yh, .int .i64 yt, .string ya, .string yv, .string yn, .string yd] 26) := blk_new w2 _ _
  have HD3 : Hid (DS (w2.alloc (.cells [.int .i64 yh, .int .i64 yt, .string ya, .string yv, .string yn, .string yd].toArray 26)) g B) := HD2.out.below ((below_one w2 _).mono (by omega))
  have HG3 : Hid (w0.grownBy (w2.alloc (.cells [.int .i64 yh, .int .i64 yt, .string ya, .string yv, .string yn, .string yd].toArray 26)) (some g)) := gr_alloc (grown_trans HG1.out HG2.out) _
  clear HVO1 HD1 HD2 HG1 HG2
  have kVH := fun W (h : VO W va l) => spec_vhash va l vc W h (by omega)
  have hVs : (hashV l).size ≤ 8 := size_hashV l
  generalize hashV l = yw at *
  go_wp2_with fail
  have hb6 : w0.heap.size ≤ w2.heap.size := by omega
  have hb7 : w1.heap.size ≤ w2.heap.size := hs2
  generalize w2.alloc (Obj.cells #[Value.int .i64 yh, Value.int .i64 yt, Value.string ya, Value.string yv, Value.string yn, Value.string yd] 26) = w3 at *
  generalize w2.heap.size = b6 at *
  refine (kVH _ HVO3.out).mono ?_
  rintro e w4 ⟨rfl, b4⟩
  have h36 : b6 < w3.heap.size := HH3.out.lt
  have HH4 : Hid (Blk w4 b6 [.int .i64 yh, .int .i64 yt, .string ya, .string yv, .string yn, .string yd] 26) := HH3.out.below b4 h36
  have HVO4 : Hid (VO w4 va l) := HVO3.out.below b4
  have HD4 : Hid (DS w4 g B) := HD3.out.below (b4.mono (by omega))
  have HG4 : Hid (w0.grownBy w4 (some g)) := gr_below HG3.out (b4.mono (by omega))
  obtain ⟨wT, hwT⟩ : ∃ W, w4.setCell ⟨b6, 3, none⟩ (.string yw) = W := ⟨_, rfl⟩
  have HHT : Hid (Blk wT b6 [.int .i64 yh, .int .i64 yt, .string ya, .string yw, .string yn, .string yd] 26) := by rw [← hwT]; exact HH4.out.set 3 _
  have HVOT : Hid (VO wT va l) := by rw [← hwT]; exact HVO4.out.gr (B := B) (gr_set _ _ _ _) (fun b o e => by have := HVl.out b o e; omega)
  have HDT : Hid (DS wT g B) := by rw [← hwT]; exact HD4.out.below ((Below.refl _ _).setCell (show B ≤ b6 by omega) _)
  have HGT : Hid (w0.grownBy wT (some g)) := by rw [← hwT]; exact gr_below HG4.out ((Below.refl _ _).setCell (show w0.heap.size ≤ b6 from hb6) _)
  have hsT : w0.heap.size ≤ wT.heap.size := HGT.out.size
  have h6T : b6 < wT.heap.size := HHT.out.lt
  have HA0 : Hid (AS wT (wT.alloc (.cells #[] 3)) g B b6 ⟨yh, yt, ya, yw, yn, yd⟩ (.slice (some ⟨wT.heap.size, 0, none⟩) 0 0) []) :=
    ⟨HDT.out.below ((below_one wT _).mono (by omega)), gr_alloc (gr_refl _ _) _, World.ownsRow_made wT #[] 0 (Nat.le_refl _) (by decide) rfl, HHT.out.alloc _, h6T, by omega, by omega, by omega⟩
  have x3 := HH4.out.cell 3 rfl
  have f3 := HH4.out.frozen 3
  clear HH3 HVO3 HD3 HG3 b4 kVH h36
  go_wp2
  clear hwT x3 f3 HH4 HVO4 HD4 HG4
  go_loopw [7, 8] (fun qv iv wr => ∃ (k : Nat) (zs : List Int), k ≤ l.length ∧ iv = .int .i64 k ∧ zs.length ≤ k ∧ Hid (AS wT wr g B b6 ⟨yh, yt, ya, yw, yn, yd⟩ qv zs)) (fun _ iv _ => l.length - (intOf iv).toNat)
  case atStart => exact ⟨0, [], Nat.zero_le _, rfl, Nat.le_refl _, HA0⟩
  case round =>
    clear HA0
    obtain ⟨k, zs, hk, rfl, hzk, HA⟩ := hrel
    by_cases hlt : k < l.length
    · have hltz : (k : Int) < (l.length : Int) := by omega
      go_wp2_with fail
      refine (once_d g B 6 _ HA.out.1).mono ?_
      rintro e w5 ⟨t, rfl, HD5, HG5⟩
      have HA5 : Hid (AS wT w5 g B b6 ⟨yh, yt, ya, yw, yn, yd⟩ _ zs) := HA.out.call HD5.out HG5.out
      clear HA HD5 HG5
      rcases t with _ | _
      · rcases HVOT.out.gr (B := B) HA5.out.2.1 HVb.out with h0 | ⟨b, o, rfl, hv⟩
        · omega
        have c0 := (hv k hlt).1
        have c1 := (hv k hlt).2
        clear hv
        generalize l[k].i = z at *
        generalize l[k].p = zp at *
        obtain ⟨qa, qc, rfl⟩ := own_shape HA5.out.2.2.1
        have HC : Hid (_) := one_int w5 z
        have HO5 : Hid (OwnI (w5.alloc (.cells #[.int .i64 z] 3)) wT.heap.size (.slice qa zs.length qc) zs) := own_keep HA5.out.2.2.1 (below_one _ _)
        have hT5 : wT.heap.size ≤ w5.heap.size := HA5.out.2.1.size
        go_wp2_with (at_builtin; refine wpList_append_own _ rfl _ _ 32 rfl wT.heap.size 3 i3 (.int .i64 0) 1 8 Tryz.underlying32 hinf3 hy0 hy1 hy2 rfl (by decide) _ _ _ rfl HO5.out ⟨w5.heap.size, 0, none⟩ 1 1 ([i64v z]) rfl rfl HC.out (i64v_one [z]) (by unfold maxLen; omega) (by omega) (by simp; omega) ?_)
        intro v' w6 hown' hgrow _
        have HA6 : Hid (AS wT w6 g B b6 ⟨yh, yt, ya, yw, yn, yd⟩ v' (zs ++ [z])) := AS.app (n := 0) HA5.out (below_one _ _) hgrow (own_snocI hown')
        clear hown' hgrow HC HO5 HA5 c0 c1
        go_wp2
        go_roundw
        case rel =>
          have R : ∃ (k' : Nat) (zs' : List Int), k' ≤ l.length ∧ Value.int .i64 ((k : Int) + 1) = .int .i64 k' ∧ zs'.length ≤ k' ∧ Hid (AS wT w6 g B b6 ⟨yh, yt, ya, yw, yn, yd⟩ v' zs') := ⟨k + 1, zs ++ [z], by omega, by go_num, by simp; omega, HA6⟩
          first | exact R | ((repeat apply Exists.intro); exact ⟨R, rfl⟩)
        case measure => simp [intOf]; omega
      · go_wp2
        go_roundw
        case rel =>
          have R : ∃ (k' : Nat) (zs' : List Int), k' ≤ l.length ∧ Value.int .i64 ((k : Int) + 1) = .int .i64 k' ∧ zs'.length ≤ k' ∧ Hid (AS wT w5 g B b6 ⟨yh, yt, ya, yw, yn, yd⟩ _ zs') := ⟨k + 1, zs, by omega, by go_num, by omega, HA5⟩
          first | exact R | ((repeat apply Exists.intro); exact ⟨R, rfl⟩)
        case measure => simp [intOf]; omega
    · have hltz : ¬ (k : Int) < (l.length : Int) := by omega
      obtain ⟨qa, qc, rfl⟩ := own_shape HA.out.2.2.1
      have hz4 : zs.length ≤ 4 := by omega
      go_upto_region 10 with fail
      go_cut [9] (fun s wx => ∃ (b9 : Nat) (x : Ct) (q : Value), s = .pointer (some ⟨b9, 0, none⟩) ∧ Hid (XS wT wx g B b9 x q) ∧ Hid (0 ≤ x.h ∧ x.h ≤ 1000001 ∧ x.i.size ≤ 8 ∧ x.l.length ≤ 4 ∧ ∀ z ∈ x.l, z.s.size ≤ 8))
      case first =>
        have hyb : Hid (0 ≤ yh ∧ yh ≤ 1000001) := ⟨HY.out.1, HY.out.2.1⟩
        have kF := fun rd W (h : Nms W qa zs) => for_d ⟨yh, yt, ya, yw, yn, yd⟩ rd qa qc zs W h (by omega)
        have hI : Hid ((headI ⟨yh, yt, ya, yw, yn, yd⟩).size ≤ 8) := size_headI _
        generalize headI ⟨yh, yt, ya, yw, yn, yd⟩ = I at *
        unfold hV cQ9 at kF
        simp only at kF
        have HAd : Hid (AS wT wr.drew g B b6 ⟨yh, yt, ya, yw, yn, yd⟩ (.slice qa zs.length qc) zs) := HA.out.below (Below.refl _ _).drew
        have hn6 : some g ≠ some b6 := by simp; omega
        have HH6 : Hid (∀ W, wT.grownBy W (some g) → Blk W b6 [.int .i64 yh, .int .i64 yt, .string ya, .string yw, .string yn, .string yd] 26) := fun W h => HHT.out.grown h hn6
        have HHd := HAd.out.2.2.2.1
        refine wp_region_held_drew (S := (fun W : World => W.cell? ⟨b6, 0, none⟩ = some (.int .i64 yh) ∧ W.cell? ⟨b6, 1, none⟩ = some (.int .i64 yt) ∧ W.cell? ⟨b6, 2, none⟩ = some (.string ya) ∧ W.cell? ⟨b6, 3, none⟩ = some (.string yw) ∧ W.cell? ⟨b6, 4, none⟩ = some (.string yn) ∧ W.cell? ⟨b6, 5, none⟩ = some (.string yd))) (by kernel_rfl) ?_ (fun hHeld => ?_)
        · exact ⟨(HHd).cell 0 rfl, (HHd).cell 1 rfl, (HHd).cell 2 rfl, (HHd).cell 3 rfl, (HHd).cell 4 rfl, (HHd).cell 5 rfl⟩
        refine wpAnyH_take (i := 0) (oi := { dst := Option.some 36, op := Go.Op.load 26 (Go.Operand.tmp 6), type := 26, pos := "l09_commit.go:93", after := #[], guard := Option.none }) (v := ?_) rfl (by kernel_rfl) (by kernel_rfl) (by kernel_rfl) (fun _ _ _ h => h) (Or.inl ⟨by rfl, ?_⟩) hHeld ?_
        rotate_left
        · intro w hSw
          try dsimp only at hSw
          go_simp
          try (with_reducible rfl)
        simp only [Act.put, List.setIfInBounds_toArray, List.set_cons_zero, List.set_cons_succ]
        refine wpAnyH_take (i := 1) (oi := { dst := Option.some 37, op := Go.Op.move (Go.Operand.tmp 0), type := 52, pos := "l09_commit.go:93", after := #[], guard := Option.none }) (v := ?_) rfl (by kernel_rfl) (by kernel_rfl) (by kernel_rfl) (fun _ _ _ h => h) (Or.inl ⟨by rfl, ?_⟩) hHeld ?_
        rotate_left
        · intro w hSw
          try dsimp only at hSw
          go_simp
          try (with_reducible rfl)
        simp only [Act.put, List.setIfInBounds_toArray, List.set_cons_zero, List.set_cons_succ]
        refine wpAnyH_take (i := 3) (oi := { dst := Option.some 39, op := Go.Op.move (Go.Operand.tmp 7), type := 32, pos := "l09_commit.go:93", after := #[], guard := Option.none }) (v := ?_) rfl (by kernel_rfl) (by kernel_rfl) (by kernel_rfl) (fun _ _ _ h => h) (Or.inl ⟨by rfl, ?_⟩) hHeld ?_
        rotate_left
        · intro w hSw
          try dsimp only at hSw
          go_simp
          try (with_reducible rfl)
        simp only [Act.put, List.setIfInBounds_toArray, List.set_cons_zero, List.set_cons_succ]
        refine wpAnyH_ready (rs := [2, 5]) (by kernel_rfl) (by decide) ?_
        refine AllReadyH.cons (o := { dst := Option.some 38, op := Go.Op.call { callee := Go.Callee.value (Go.Operand.func 49), args := #[Go.Operand.tmp 37, Go.Operand.const (Go.Value.int Go.IntKind.i64 3)], argTypes := #[52, 3] }, type := 3, pos := "l09_commit.go:93", after := #[{ on := 1, ground := Go.Ground.data }], guard := Option.none }) rfl (fun K hK => ?_) (AllReadyH.cons (o := { dst := Option.some 9, op := Go.Op.alloc 29, type := 0, pos := "l09_commit.go:93", after := #[], guard := Option.none }) rfl (fun K hK => ?_) AllReadyH.nil)
        · go_simp
          go_at_call 49
          refine (below_d g B 3 _ HAd.out.1 (by omega)).mono ?_
          rintro e wb ⟨r, rfl, r0, r1, HDb, HGb⟩
          have HAb : Hid (AS wT wb g B b6 ⟨yh, yt, ya, yw, yn, yd⟩ (.slice qa zs.length qc) zs) := HAd.out.call HDb.out HGb.out
          clear HDb HGb
          refine hK.out _ _ (⟨(HAb.out.2.2.2.1).cell 0 rfl, (HAb.out.2.2.2.1).cell 1 rfl, (HAb.out.2.2.2.1).cell 2 rfl, (HAb.out.2.2.2.1).cell 3 rfl, (HAb.out.2.2.2.1).cell 4 rfl, (HAb.out.2.2.2.1).cell 5 rfl⟩) (fun hHeld => ?_)
          clear hK K
          try simp only [Act.put, List.setIfInBounds_toArray, List.set_cons_zero, List.set_cons_succ]
          refine wpAnyH_ready (rs := [4, 5]) (by kernel_rfl) (by decide) ?_
          refine AllReadyH.cons (o := { dst := Option.some 40, op := Go.Op.call { callee := Go.Callee.value (Go.Operand.func 48), args := #[Go.Operand.tmp 36, Go.Operand.tmp 38, Go.Operand.tmp 39], argTypes := #[26, 3, 32] }, type := 29, pos := "l09_commit.go:93", after := #[{ on := 0, ground := Go.Ground.data }, { on := 2, ground := Go.Ground.data }, { on := 3, ground := Go.Ground.data }, { on := 2, ground := Go.Ground.chain }], guard := Option.none }) rfl (fun K hK => ?_) (AllReadyH.cons (o := { dst := Option.some 9, op := Go.Op.alloc 29, type := 0, pos := "l09_commit.go:93", after := #[], guard := Option.none }) rfl (fun K hK => ?_) AllReadyH.nil)
          · go_simp
            go_at_call 48
            refine (kF r _ (own_nums HAb.out.2.2.1)).mono ?_
            rintro e wf ⟨sl, q9, rfl, HL9, HO9, HB9⟩
            obtain ⟨a9, c9, rfl⟩ := own_shape HO9.out
            have HAf : Hid (AS wT wf g B b6 ⟨yh, yt, ya, yw, yn, yd⟩ (.slice qa zs.length qc) zs) := HAb.out.below HB9.out
            refine hK.out _ _ (⟨(HAf.out.2.2.2.1).cell 0 rfl, (HAf.out.2.2.2.1).cell 1 rfl, (HAf.out.2.2.2.1).cell 2 rfl, (HAf.out.2.2.2.1).cell 3 rfl, (HAf.out.2.2.2.1).cell 4 rfl, (HAf.out.2.2.2.1).cell 5 rfl⟩) (fun hHeld => ?_)
            clear hK K
            try simp only [Act.put, List.setIfInBounds_toArray, List.set_cons_zero, List.set_cons_succ]
            refine wpAnyH_ready (rs := [5]) (by kernel_rfl) (by decide) ?_
            refine AllReadyH.cons (o := { dst := Option.some 9, op := Go.Op.alloc 29, type := 0, pos := "l09_commit.go:93", after := #[], guard := Option.none }) rfl (fun K hK => ?_) AllReadyH.nil
            have hTa : wT.heap.size ≤ wf.heap.size := HAf.out.2.1.size
            have HAa : Hid (AS wT (wf.alloc (.cells #[.int .i64 0, .int .i64 0, .string ⟨#[]⟩, .slice none 0 0] 29)) g B b6 ⟨yh, yt, ya, yw, yn, yd⟩ (.slice qa zs.length qc) zs) := HAf.out.below (below_one _ _)
            have HZa : Hid (Blk (wf.alloc (.cells #[.int .i64 0, .int .i64 0, .string ⟨#[]⟩, .slice none 0 0] 29)) wf.heap.size [.int .i64 0, .int .i64 0, .string ⟨#[]⟩, .slice none 0 0] 29) := blk_new wf _ _
            go_simp
            refine hK.out _ _ (⟨(HAa.out.2.2.2.1).cell 0 rfl, (HAa.out.2.2.2.1).cell 1 rfl, (HAa.out.2.2.2.1).cell 2 rfl, (HAa.out.2.2.2.1).cell 3 rfl, (HAa.out.2.2.2.1).cell 4 rfl, (HAa.out.2.2.2.1).cell 5 rfl⟩) (fun hHeld => ?_)
            clear hK K
            try simp only [Act.put, List.setIfInBounds_toArray, List.set_cons_zero, List.set_cons_succ]
            refine wpAnyH_ready (rs := [6]) (by kernel_rfl) (by decide) ?_
            refine AllReadyH.cons (o := { dst := Option.none, op := Go.Op.store 29 (Go.Operand.tmp 9) (Go.Operand.tmp 40), type := 0, pos := "l09_commit.go:93", after := #[{ on := 5, ground := Go.Ground.data }, { on := 4, ground := Go.Ground.data }, { on := 4, ground := Go.Ground.chain }, { on := 0, ground := Go.Ground.phase }, { on := 1, ground := Go.Ground.phase }, { on := 2, ground := Go.Ground.phase }, { on := 3, ground := Go.Ground.phase }, { on := 4, ground := Go.Ground.phase }, { on := 5, ground := Go.Ground.phase }], guard := Option.none }) rfl (fun K hK => ?_) AllReadyH.nil
            have HXf : Hid (XS wT (wf.alloc (.cells #[.int .i64 yh, .int .i64 r, .string I, .slice a9 sl.length c9] 29)) g B wf.heap.size ⟨yh, r, I, sl⟩ (.slice a9 sl.length c9)) := XS.lay HAb.out HO9.out HB9.out _ _ _
            have z0 := HZa.out.cell 0 rfl
            have z1 := HZa.out.cell 1 rfl
            have z2 := HZa.out.cell 2 rfl
            have z3 := HZa.out.cell 3 rfl
            have g0 := HZa.out.frozen 0
            have g1 := HZa.out.frozen 1
            have g2 := HZa.out.frozen 2
            have g3 := HZa.out.frozen 3
            go_simp
            refine hK.out _ _ (⟨(HH6.out _ HXf.out.2.2.2.1).cell 0 rfl, (HH6.out _ HXf.out.2.2.2.1).cell 1 rfl, (HH6.out _ HXf.out.2.2.2.1).cell 2 rfl, (HH6.out _ HXf.out.2.2.2.1).cell 3 rfl, (HH6.out _ HXf.out.2.2.2.1).cell 4 rfl, (HH6.out _ HXf.out.2.2.2.1).cell 5 rfl⟩) (fun hHeld => ?_)
            clear hK K
            try simp only [Act.put, List.setIfInBounds_toArray, List.set_cons_zero, List.set_cons_succ]
            refine wpAnyH_done (by kernel_rfl) ?_ _
            go_wp2_with fail
            go_meet
            exact ⟨_, ⟨yh, r, I, sl⟩, _, rfl, HXf, ⟨hyb.out.1, hyb.out.2, hI.out, by have := HL9.out.1; show sl.length ≤ 4; omega, HL9.out.2⟩⟩
          · have hTa : wT.heap.size ≤ wb.heap.size := HAb.out.2.1.size
            have HAa : Hid (AS wT (wb.alloc (.cells #[.int .i64 0, .int .i64 0, .string ⟨#[]⟩, .slice none 0 0] 29)) g B b6 ⟨yh, yt, ya, yw, yn, yd⟩ (.slice qa zs.length qc) zs) := HAb.out.below (below_one _ _)
            have HZa : Hid (Blk (wb.alloc (.cells #[.int .i64 0, .int .i64 0, .string ⟨#[]⟩, .slice none 0 0] 29)) wb.heap.size [.int .i64 0, .int .i64 0, .string ⟨#[]⟩, .slice none 0 0] 29) := blk_new wb _ _
            go_simp
            refine hK.out _ _ (⟨(HAa.out.2.2.2.1).cell 0 rfl, (HAa.out.2.2.2.1).cell 1 rfl, (HAa.out.2.2.2.1).cell 2 rfl, (HAa.out.2.2.2.1).cell 3 rfl, (HAa.out.2.2.2.1).cell 4 rfl, (HAa.out.2.2.2.1).cell 5 rfl⟩) (fun hHeld => ?_)
            clear hK K
            try simp only [Act.put, List.setIfInBounds_toArray, List.set_cons_zero, List.set_cons_succ]
            refine wpAnyH_ready (rs := [4]) (by kernel_rfl) (by decide) ?_
            refine AllReadyH.cons (o := { dst := Option.some 40, op := Go.Op.call { callee := Go.Callee.value (Go.Operand.func 48), args := #[Go.Operand.tmp 36, Go.Operand.tmp 38, Go.Operand.tmp 39], argTypes := #[26, 3, 32] }, type := 29, pos := "l09_commit.go:93", after := #[{ on := 0, ground := Go.Ground.data }, { on := 2, ground := Go.Ground.data }, { on := 3, ground := Go.Ground.data }, { on := 2, ground := Go.Ground.chain }], guard := Option.none }) rfl (fun K hK => ?_) AllReadyH.nil
            go_simp
            go_at_call 48
            refine (kF r _ (own_nums HAa.out.2.2.1)).mono ?_
            rintro e wf ⟨sl, q9, rfl, HL9, HO9, HB9⟩
            obtain ⟨a9, c9, rfl⟩ := own_shape HO9.out
            have HAf : Hid (AS wT wf g B b6 ⟨yh, yt, ya, yw, yn, yd⟩ (.slice qa zs.length qc) zs) := HAa.out.below HB9.out
            have HZf : Hid (Blk wf wb.heap.size [.int .i64 0, .int .i64 0, .string ⟨#[]⟩, .slice none 0 0] 29) := HZa.out.below HB9.out HZa.out.lt
            refine hK.out _ _ (⟨(HAf.out.2.2.2.1).cell 0 rfl, (HAf.out.2.2.2.1).cell 1 rfl, (HAf.out.2.2.2.1).cell 2 rfl, (HAf.out.2.2.2.1).cell 3 rfl, (HAf.out.2.2.2.1).cell 4 rfl, (HAf.out.2.2.2.1).cell 5 rfl⟩) (fun hHeld => ?_)
            clear hK K
            try simp only [Act.put, List.setIfInBounds_toArray, List.set_cons_zero, List.set_cons_succ]
            refine wpAnyH_ready (rs := [6]) (by kernel_rfl) (by decide) ?_
            refine AllReadyH.cons (o := { dst := Option.none, op := Go.Op.store 29 (Go.Operand.tmp 9) (Go.Operand.tmp 40), type := 0, pos := "l09_commit.go:93", after := #[{ on := 5, ground := Go.Ground.data }, { on := 4, ground := Go.Ground.data }, { on := 4, ground := Go.Ground.chain }, { on := 0, ground := Go.Ground.phase }, { on := 1, ground := Go.Ground.phase }, { on := 2, ground := Go.Ground.phase }, { on := 3, ground := Go.Ground.phase }, { on := 4, ground := Go.Ground.phase }, { on := 5, ground := Go.Ground.phase }], guard := Option.none }) rfl (fun K hK => ?_) AllReadyH.nil
            have HXf : Hid (XS wT ((((wf.setCell ⟨wb.heap.size, 0, none⟩ (.int .i64 yh)).setCell ⟨wb.heap.size, 1, none⟩ (.int .i64 r)).setCell ⟨wb.heap.size, 2, none⟩ (.string I)).setCell ⟨wb.heap.size, 3, none⟩ (.slice a9 sl.length c9)) g B wb.heap.size ⟨yh, r, I, sl⟩ (.slice a9 sl.length c9)) := XS.put HZf.out (own_less HO9.out HAa.out.2.1.size) HAf.out.1 HAf.out.2.1 hTa HAf.out.2.2.2.2.2.2.1 HAf.out.2.2.2.2.2.2.2 _ _ _
            have z0 := HZf.out.cell 0 rfl
            have z1 := HZf.out.cell 1 rfl
            have z2 := HZf.out.cell 2 rfl
            have z3 := HZf.out.cell 3 rfl
            have g0 := HZf.out.frozen 0
            have g1 := HZf.out.frozen 1
            have g2 := HZf.out.frozen 2
            have g3 := HZf.out.frozen 3
            go_simp
            refine hK.out _ _ (⟨(HH6.out _ HXf.out.2.2.2.1).cell 0 rfl, (HH6.out _ HXf.out.2.2.2.1).cell 1 rfl, (HH6.out _ HXf.out.2.2.2.1).cell 2 rfl, (HH6.out _ HXf.out.2.2.2.1).cell 3 rfl, (HH6.out _ HXf.out.2.2.2.1).cell 4 rfl, (HH6.out _ HXf.out.2.2.2.1).cell 5 rfl⟩) (fun hHeld => ?_)
            clear hK K
            try simp only [Act.put, List.setIfInBounds_toArray, List.set_cons_zero, List.set_cons_succ]
            refine wpAnyH_done (by kernel_rfl) ?_ _
            go_wp2_with fail
            go_meet
            exact ⟨_, ⟨yh, r, I, sl⟩, _, rfl, HXf, ⟨hyb.out.1, hyb.out.2, hI.out, by have := HL9.out.1; show sl.length ≤ 4; omega, HL9.out.2⟩⟩
        · have hTa : wT.heap.size ≤ wr.heap.size := HAd.out.2.1.size
          have HAa : Hid (AS wT (wr.alloc (.cells #[.int .i64 0, .int .i64 0, .string ⟨#[]⟩, .slice none 0 0] 29)).drew g B b6 ⟨yh, yt, ya, yw, yn, yd⟩ (.slice qa zs.length qc) zs) := HAd.out.below (below_one _ _)
          have HZa : Hid (Blk (wr.alloc (.cells #[.int .i64 0, .int .i64 0, .string ⟨#[]⟩, .slice none 0 0] 29)).drew wr.heap.size [.int .i64 0, .int .i64 0, .string ⟨#[]⟩, .slice none 0 0] 29) := blk_new wr _ _
          go_simp
          refine hK.out _ _ (⟨(HAa.out.2.2.2.1).cell 0 rfl, (HAa.out.2.2.2.1).cell 1 rfl, (HAa.out.2.2.2.1).cell 2 rfl, (HAa.out.2.2.2.1).cell 3 rfl, (HAa.out.2.2.2.1).cell 4 rfl, (HAa.out.2.2.2.1).cell 5 rfl⟩) (fun hHeld => ?_)
          clear hK K
          try simp only [Act.put, List.setIfInBounds_toArray, List.set_cons_zero, List.set_cons_succ]
          refine wpAnyH_ready (rs := [2]) (by kernel_rfl) (by decide) ?_
          refine AllReadyH.cons (o := { dst := Option.some 38, op := Go.Op.call { callee := Go.Callee.value (Go.Operand.func 49), args := #[Go.Operand.tmp 37, Go.Operand.const (Go.Value.int Go.IntKind.i64 3)], argTypes := #[52, 3] }, type := 3, pos := "l09_commit.go:93", after := #[{ on := 1, ground := Go.Ground.data }], guard := Option.none }) rfl (fun K hK => ?_) AllReadyH.nil
          go_simp
          go_at_call 49
          refine (below_d g B 3 _ HAa.out.1 (by omega)).mono ?_
          rintro e wb ⟨r, rfl, r0, r1, HDb, HGb⟩
          have HAb : Hid (AS wT wb g B b6 ⟨yh, yt, ya, yw, yn, yd⟩ (.slice qa zs.length qc) zs) := HAa.out.call HDb.out HGb.out
          have HZb : Hid (Blk wb wr.heap.size [.int .i64 0, .int .i64 0, .string ⟨#[]⟩, .slice none 0 0] 29) := HZa.out.grown HGb.out (by simp; omega)
          clear HDb HGb
          refine hK.out _ _ (⟨(HAb.out.2.2.2.1).cell 0 rfl, (HAb.out.2.2.2.1).cell 1 rfl, (HAb.out.2.2.2.1).cell 2 rfl, (HAb.out.2.2.2.1).cell 3 rfl, (HAb.out.2.2.2.1).cell 4 rfl, (HAb.out.2.2.2.1).cell 5 rfl⟩) (fun hHeld => ?_)
          clear hK K
          try simp only [Act.put, List.setIfInBounds_toArray, List.set_cons_zero, List.set_cons_succ]
          refine wpAnyH_ready (rs := [4]) (by kernel_rfl) (by decide) ?_
          refine AllReadyH.cons (o := { dst := Option.some 40, op := Go.Op.call { callee := Go.Callee.value (Go.Operand.func 48), args := #[Go.Operand.tmp 36, Go.Operand.tmp 38, Go.Operand.tmp 39], argTypes := #[26, 3, 32] }, type := 29, pos := "l09_commit.go:93", after := #[{ on := 0, ground := Go.Ground.data }, { on := 2, ground := Go.Ground.data }, { on := 3, ground := Go.Ground.data }, { on := 2, ground := Go.Ground.chain }], guard := Option.none }) rfl (fun K hK => ?_) AllReadyH.nil
          go_simp
          go_at_call 48
          refine (kF r _ (own_nums HAb.out.2.2.1)).mono ?_
          rintro e wf ⟨sl, q9, rfl, HL9, HO9, HB9⟩
          obtain ⟨a9, c9, rfl⟩ := own_shape HO9.out
          have HAf : Hid (AS wT wf g B b6 ⟨yh, yt, ya, yw, yn, yd⟩ (.slice qa zs.length qc) zs) := HAb.out.below HB9.out
          have HZf : Hid (Blk wf wr.heap.size [.int .i64 0, .int .i64 0, .string ⟨#[]⟩, .slice none 0 0] 29) := HZb.out.below HB9.out HZb.out.lt
          refine hK.out _ _ (⟨(HAf.out.2.2.2.1).cell 0 rfl, (HAf.out.2.2.2.1).cell 1 rfl, (HAf.out.2.2.2.1).cell 2 rfl, (HAf.out.2.2.2.1).cell 3 rfl, (HAf.out.2.2.2.1).cell 4 rfl, (HAf.out.2.2.2.1).cell 5 rfl⟩) (fun hHeld => ?_)
          clear hK K
          try simp only [Act.put, List.setIfInBounds_toArray, List.set_cons_zero, List.set_cons_succ]
          refine wpAnyH_ready (rs := [6]) (by kernel_rfl) (by decide) ?_
          refine AllReadyH.cons (o := { dst := Option.none, op := Go.Op.store 29 (Go.Operand.tmp 9) (Go.Operand.tmp 40), type := 0, pos := "l09_commit.go:93", after := #[{ on := 5, ground := Go.Ground.data }, { on := 4, ground := Go.Ground.data }, { on := 4, ground := Go.Ground.chain }, { on := 0, ground := Go.Ground.phase }, { on := 1, ground := Go.Ground.phase }, { on := 2, ground := Go.Ground.phase }, { on := 3, ground := Go.Ground.phase }, { on := 4, ground := Go.Ground.phase }, { on := 5, ground := Go.Ground.phase }], guard := Option.none }) rfl (fun K hK => ?_) AllReadyH.nil
          have HXf : Hid (XS wT ((((wf.setCell ⟨wr.heap.size, 0, none⟩ (.int .i64 yh)).setCell ⟨wr.heap.size, 1, none⟩ (.int .i64 r)).setCell ⟨wr.heap.size, 2, none⟩ (.string I)).setCell ⟨wr.heap.size, 3, none⟩ (.slice a9 sl.length c9)) g B wr.heap.size ⟨yh, r, I, sl⟩ (.slice a9 sl.length c9)) := XS.put HZf.out (own_less HO9.out HAb.out.2.1.size) HAf.out.1 HAf.out.2.1 hTa HAf.out.2.2.2.2.2.2.1 HAf.out.2.2.2.2.2.2.2 _ _ _
          have z0 := HZf.out.cell 0 rfl
          have z1 := HZf.out.cell 1 rfl
          have z2 := HZf.out.cell 2 rfl
          have z3 := HZf.out.cell 3 rfl
          have g0 := HZf.out.frozen 0
          have g1 := HZf.out.frozen 1
          have g2 := HZf.out.frozen 2
          have g3 := HZf.out.frozen 3
          go_simp
          refine hK.out _ _ (⟨(HH6.out _ HXf.out.2.2.2.1).cell 0 rfl, (HH6.out _ HXf.out.2.2.2.1).cell 1 rfl, (HH6.out _ HXf.out.2.2.2.1).cell 2 rfl, (HH6.out _ HXf.out.2.2.2.1).cell 3 rfl, (HH6.out _ HXf.out.2.2.2.1).cell 4 rfl, (HH6.out _ HXf.out.2.2.2.1).cell 5 rfl⟩) (fun hHeld => ?_)
          clear hK K
          try simp only [Act.put, List.setIfInBounds_toArray, List.set_cons_zero, List.set_cons_succ]
          refine wpAnyH_done (by kernel_rfl) ?_ _
          go_wp2_with fail
          go_meet
          exact ⟨_, ⟨yh, r, I, sl⟩, _, rfl, HXf, ⟨hyb.out.1, hyb.out.2, hI.out, by have := HL9.out.1; show sl.length ≤ 4; omega, HL9.out.2⟩⟩
      case rest =>
        rename World => w7
        obtain ⟨b9, x, q, rfl, HX, HXb⟩ := hcut
        go_wp2_with fail
        refine (once_d g B 4 _ HX.out.2.2.1).mono ?_
        rintro e w8 ⟨t, rfl, HD8, HG8⟩
        have HX8 : Hid (XS wT w8 g B b9 x q) := HX.out.call HD8.out HG8.out
        clear HX HD8 HG8
        obtain ⟨xh, xr, xi, xl⟩ := x
        simp only at HXb
        obtain ⟨xq, xc, rfl⟩ := own_shape HX8.out.2.1
        go_upto_if 42 with fail
        go_cut [5] (fun s wx => ∃ (a : Option Addr) (cap : Nat) (m : List V) (x : Ct) (q : Value), s = .slice a m.length cap ∧ Hid (VO wx a m ∧ m.length ≤ 8 ∧ ∀ b o, a = some ⟨b, o, none⟩ → w0.heap.size ≤ b) ∧ Hid (XS wT wx g B b9 x q) ∧ Hid (DrC x))
        case first =>
          have HXl : Hid (DrC ⟨xh, xr, xi, xl⟩) := ⟨by have := HXb.out.2.2.1; show xi.size ≤ 1003; omega, by have := HXb.out.2.2.2.1; show xl.length ≤ 13; omega, fun z hz => by have := HXb.out.2.2.2.2 z hz; omega⟩
          have HVW : Hid (∀ W, wT.grownBy W (some g) → VO W va l ∧ l.length ≤ 8 ∧ ∀ b o, va = some ⟨b, o, none⟩ → w0.heap.size ≤ b) := fun W h => ⟨HVOT.out.gr (B := B) h HVb.out, by omega, HVc.out⟩
          rcases t with _ | _
          · go_wp2_with fail
            go_meet
            exact ⟨va, vc, l, _, _, rfl, HVW.out _ HX8.out.2.2.2.1, HX8, HXl⟩
          · go_wp2_with fail
            refine (below_d g B 6 _ HX8.out.2.2.1 (by omega)).mono ?_
            rintro e w9 ⟨y, rfl, y0, y1, HD9, HG9⟩
            have HX9 : Hid (XS wT w9 g B b9 ⟨xh, xr, xi, xl⟩ (.slice xq xl.length xc)) := HX8.out.call HD9.out HG9.out
            clear HX8 HD9 HG9
            have hy : y = 0 ∨ y = 1 ∨ y = 2 ∨ y = 3 ∨ y = 4 ∨ y = 5 := by omega
            clear y0 y1
            have x0 := HX9.out.1.cell 0 rfl
            have x1 := HX9.out.1.cell 1 rfl
            have x2 := HX9.out.1.cell 2 rfl
            have x3 := HX9.out.1.cell 3 rfl
            have f0 := HX9.out.1.frozen 0
            have f2 := HX9.out.1.frozen 2
            have f3 := HX9.out.1.frozen 3
            rcases hy with rfl | rfl | rfl | rfl | rfl | rfl
            · rcases xl with _ | ⟨z0, xl⟩
              · go_wp2_with fail
                go_meet
                exact ⟨va, vc, l, _, _, rfl, HVW.out _ HX9.out.2.2.2.1, HX9, HXl⟩
              · obtain ⟨zv, zt⟩ := z0
                have hzt : zt.size ≤ 1000 := by have := HXb.out.2.2.2.2 ⟨zv, zt⟩ (by simp); simp only at this; omega
                have hrest : Hid (∀ z ∈ xl, z.s.size ≤ 1003) := fun z hz => by have := HXb.out.2.2.2.2 z (by simp [hz]); omega
                have hlen1 : Hid (xl.length + 1 ≤ 13) := by have := HXb.out.2.2.2.1; simp only [List.length_cons] at this; show xl.length + 1 ≤ 13; omega
                have HXi : Hid (0 ≤ xi.size ∧ xi.size ≤ 1003) := ⟨by omega, by have := HXb.out.2.2.1; omega⟩
                obtain ⟨gq, cq, hq, hq1, hq2⟩ := World.ownsRow.form HX9.out.2.1 (by simp)
                simp only [Value.slice.injEq] at hq
                obtain ⟨rfl, _, rfl⟩ := hq
                have HXd : Hid (XS wT w9.drew g B b9 ⟨xh, xr, xi, ⟨zv, zt⟩ :: xl⟩ (.slice (some ⟨gq, 0, none⟩) (xl.length + 1) xc)) := HX9.out.below (Below.refl _ _).drew
                have hpos : (0 : Int) < ((xl.length : Int) + 1) := by omega
                clear HXl HXb hq1 hq2
                have x3 := HX9.out.1.cell 3 rfl
                go_wp2_with fail
                refine wp_region_held_drew (S := (fun W : World => W.cell? ⟨b9, 3, none⟩ = some (.slice (some ⟨gq, 0, none⟩) (xl.length + 1) xc))) (by kernel_rfl) ?_ (fun hHeld => ?_)
                · exact x3
                refine wpAnyH_take (i := 0) (oi := { dst := Option.some 68, op := Go.Op.fieldAddr 29 (Go.Operand.tmp 9) 3, type := 0, pos := "l09_commit.go:98", after := #[], guard := Option.none }) (v := ?_) rfl (by kernel_rfl) (by kernel_rfl) (by kernel_rfl) (fun _ _ _ h => h) (Or.inl ⟨by rfl, ?_⟩) hHeld ?_
                rotate_left
                · intro w hSw
                  try dsimp only at hSw
                  go_simp
                  try (with_reducible rfl)
                simp only [Act.put, List.setIfInBounds_toArray, List.set_cons_zero, List.set_cons_succ]
                refine wpAnyH_take (i := 1) (oi := { dst := Option.some 69, op := Go.Op.load 27 (Go.Operand.tmp 68), type := 27, pos := "l09_commit.go:98", after := #[{ on := 0, ground := Go.Ground.data }], guard := Option.none }) (v := ?_) rfl (by kernel_rfl) (by kernel_rfl) (by kernel_rfl) (fun _ _ _ h => h) (Or.inl ⟨by rfl, ?_⟩) hHeld ?_
                rotate_left
                · intro w hSw
                  try dsimp only at hSw
                  go_simp
                  try (with_reducible rfl)
                simp only [Act.put, List.setIfInBounds_toArray, List.set_cons_zero, List.set_cons_succ]
                refine wpAnyH_take (i := 2) (oi := { dst := Option.some 70, op := Go.Op.move (Go.Operand.tmp 0), type := 52, pos := "l09_commit.go:98", after := #[], guard := Option.none }) (v := ?_) rfl (by kernel_rfl) (by kernel_rfl) (by kernel_rfl) (fun _ _ _ h => h) (Or.inl ⟨by rfl, ?_⟩) hHeld ?_
                rotate_left
                · intro w hSw
                  try dsimp only at hSw
                  go_simp
                  try (with_reducible rfl)
                simp only [Act.put, List.setIfInBounds_toArray, List.set_cons_zero, List.set_cons_succ]
                refine wpAnyH_take (i := 3) (oi := { dst := Option.some 71, op := Go.Op.fieldAddr 29 (Go.Operand.tmp 9) 3, type := 0, pos := "l09_commit.go:98", after := #[], guard := Option.none }) (v := ?_) rfl (by kernel_rfl) (by kernel_rfl) (by kernel_rfl) (fun _ _ _ h => h) (Or.inl ⟨by rfl, ?_⟩) hHeld ?_
                rotate_left
                · intro w hSw
                  try dsimp only at hSw
                  go_simp
                  try (with_reducible rfl)
                simp only [Act.put, List.setIfInBounds_toArray, List.set_cons_zero, List.set_cons_succ]
                refine wpAnyH_take (i := 4) (oi := { dst := Option.some 72, op := Go.Op.load 27 (Go.Operand.tmp 71), type := 27, pos := "l09_commit.go:98", after := #[{ on := 3, ground := Go.Ground.data }], guard := Option.none }) (v := ?_) rfl (by kernel_rfl) (by kernel_rfl) (by kernel_rfl) (fun _ _ _ h => h) (Or.inl ⟨by rfl, ?_⟩) hHeld ?_
                rotate_left
                · intro w hSw
                  try dsimp only at hSw
                  go_simp
                  try (with_reducible rfl)
                simp only [Act.put, List.setIfInBounds_toArray, List.set_cons_zero, List.set_cons_succ]
                refine wpAnyH_take (i := 5) (oi := { dst := Option.some 73, op := Go.Op.indexAddr 27 (Go.Operand.tmp 72) (Go.Operand.const (Go.Value.int Go.IntKind.i64 0)), type := 0, pos := "l09_commit.go:98", after := #[{ on := 4, ground := Go.Ground.data }], guard := Option.none }) (v := ?_) rfl (by kernel_rfl) (by kernel_rfl) (by kernel_rfl) (fun _ _ _ h => h) (Or.inl ⟨by rfl, ?_⟩) hHeld ?_
                rotate_left
                · intro w hSw
                  try dsimp only at hSw
                  go_simp
                  try (with_reducible rfl)
                simp only [Act.put, List.setIfInBounds_toArray, List.set_cons_zero, List.set_cons_succ]
                refine wpAnyH_take (i := 6) (oi := { dst := Option.some 74, op := Go.Op.fieldAddr 62 (Go.Operand.tmp 73) 1, type := 0, pos := "l09_commit.go:98", after := #[{ on := 5, ground := Go.Ground.data }], guard := Option.none }) (v := ?_) rfl (by kernel_rfl) (by kernel_rfl) (by kernel_rfl) (fun _ _ _ h => h) (Or.inl ⟨by rfl, ?_⟩) hHeld ?_
                rotate_left
                · intro w hSw
                  try dsimp only at hSw
                  go_simp
                  try (with_reducible rfl)
                simp only [Act.put, List.setIfInBounds_toArray, List.set_cons_zero, List.set_cons_succ]
                refine wpAnyH_ready (rs := [7]) (by kernel_rfl) (by decide) ?_
                refine AllReadyH.cons (o := { dst := Option.some 75, op := Go.Op.load 9 (Go.Operand.tmp 74), type := 9, pos := "l09_commit.go:98", after := #[{ on := 6, ground := Go.Ground.data }], guard := Option.none }) rfl (fun K hK => ?_) AllReadyH.nil
                have c1 : w9.drew.cell? ⟨gq, 1, none⟩ = some (.string zt) := (HXd.out.2.1.cellAt 1 (by show 1 < (xl.length + 1) * 2; omega)).trans rfl
                go_simp
                refine hK.out _ _ (HXd.out.1.cell 3 rfl) (fun hHeld => ?_)
                clear hK K
                try simp only [Act.put, List.setIfInBounds_toArray, List.set_cons_zero, List.set_cons_succ]
                refine wpAnyH_ready (rs := [8]) (by kernel_rfl) (by decide) ?_
                refine AllReadyH.cons (o := { dst := Option.some 76, op := Go.Op.call { callee := Go.Callee.value (Go.Operand.func 50), args := #[Go.Operand.tmp 70, Go.Operand.tmp 75], argTypes := #[52, 9] }, type := 9, pos := "l09_commit.go:98", after := #[{ on := 2, ground := Go.Ground.data }, { on := 7, ground := Go.Ground.data }], guard := Option.none }) rfl (fun K hK => ?_) AllReadyH.nil
                go_simp
                go_at_call 50
                refine (spoil_d g B zt _ HXd.out.2.2.1 hzt).mono ?_
                rintro e wa ⟨u, rfl, HZ, HDa, HGa⟩
                have HXa : Hid (XS wT wa g B b9 ⟨xh, xr, xi, ⟨zv, zt⟩ :: xl⟩ (.slice (some ⟨gq, 0, none⟩) (xl.length + 1) xc)) := HXd.out.call HDa.out HGa.out
                refine hK.out _ _ (HXa.out.1.cell 3 rfl) (fun hHeld => ?_)
                clear hK K
                try simp only [Act.put, List.setIfInBounds_toArray, List.set_cons_zero, List.set_cons_succ]
                refine wpAnyH_take (i := 9) (oi := { dst := Option.some 77, op := Go.Op.indexAddr 27 (Go.Operand.tmp 69) (Go.Operand.const (Go.Value.int Go.IntKind.i64 0)), type := 0, pos := "l09_commit.go:98", after := #[{ on := 1, ground := Go.Ground.data }, { on := 0, ground := Go.Ground.phase }, { on := 1, ground := Go.Ground.phase }, { on := 2, ground := Go.Ground.phase }, { on := 3, ground := Go.Ground.phase }, { on := 4, ground := Go.Ground.phase }, { on := 5, ground := Go.Ground.phase }, { on := 6, ground := Go.Ground.phase }, { on := 7, ground := Go.Ground.phase }, { on := 8, ground := Go.Ground.phase }], guard := Option.none }) (v := ?_) rfl (by kernel_rfl) (by kernel_rfl) (by kernel_rfl) (fun _ _ _ h => h) (Or.inl ⟨by rfl, ?_⟩) hHeld ?_
                rotate_left
                · intro w hSw
                  try dsimp only at hSw
                  go_simp
                  try (with_reducible rfl)
                simp only [Act.put, List.setIfInBounds_toArray, List.set_cons_zero, List.set_cons_succ]
                refine wpAnyH_take (i := 10) (oi := { dst := Option.some 78, op := Go.Op.fieldAddr 62 (Go.Operand.tmp 77) 1, type := 0, pos := "l09_commit.go:98", after := #[{ on := 9, ground := Go.Ground.data }, { on := 0, ground := Go.Ground.phase }, { on := 1, ground := Go.Ground.phase }, { on := 2, ground := Go.Ground.phase }, { on := 3, ground := Go.Ground.phase }, { on := 4, ground := Go.Ground.phase }, { on := 5, ground := Go.Ground.phase }, { on := 6, ground := Go.Ground.phase }, { on := 7, ground := Go.Ground.phase }, { on := 8, ground := Go.Ground.phase }], guard := Option.none }) (v := ?_) rfl (by kernel_rfl) (by kernel_rfl) (by kernel_rfl) (fun _ _ _ h => h) (Or.inl ⟨by rfl, ?_⟩) hHeld ?_
                rotate_left
                · intro w hSw
                  try dsimp only at hSw
                  go_simp
                  try (with_reducible rfl)
                simp only [Act.put, List.setIfInBounds_toArray, List.set_cons_zero, List.set_cons_succ]
                refine wpAnyH_ready (rs := [11]) (by kernel_rfl) (by decide) ?_
                refine AllReadyH.cons (o := { dst := Option.none, op := Go.Op.store 9 (Go.Operand.tmp 78) (Go.Operand.tmp 76), type := 0, pos := "l09_commit.go:98", after := #[{ on := 10, ground := Go.Ground.data }, { on := 8, ground := Go.Ground.data }, { on := 8, ground := Go.Ground.chain }, { on := 0, ground := Go.Ground.phase }, { on := 1, ground := Go.Ground.phase }, { on := 2, ground := Go.Ground.phase }, { on := 3, ground := Go.Ground.phase }, { on := 4, ground := Go.Ground.phase }, { on := 5, ground := Go.Ground.phase }, { on := 6, ground := Go.Ground.phase }, { on := 7, ground := Go.Ground.phase }, { on := 8, ground := Go.Ground.phase }], guard := Option.none }) rfl (fun K hK => ?_) AllReadyH.nil
                have HY : Hid (XS wT (wa.setCell ⟨gq, 1, none⟩ (.string u)) g B b9 ⟨xh, xr, xi, ⟨zv, u⟩ :: xl⟩ (.slice (some ⟨gq, 0, none⟩) (xl.length + 1) xc)) := XS.spoil HXa.out
                have z1 : wa.cell? ⟨gq, 1, none⟩ = some (.string zt) := (HXa.out.2.1.cellAt 1 (by show 1 < (xl.length + 1) * 2; omega)).trans rfl
                have g1 : wa.frozen? ⟨gq, 1, none⟩ = false := HXa.out.2.1.frozenAt 1
                go_simp
                refine hK.out _ _ (HY.out.1.cell 3 rfl) (fun hHeld => ?_)
                clear hK K
                try simp only [Act.put, List.setIfInBounds_toArray, List.set_cons_zero, List.set_cons_succ]
                refine wpAnyH_done (by kernel_rfl) ?_ _
                have HXm : Hid (DrC ⟨xh, xr, xi, ⟨zv, u⟩ :: xl⟩) := ⟨HXi.out.2, hlen1.out, fun z hz => by (rcases List.mem_cons.1 hz with hz | hz; subst hz; exact HZ.out; exact hrest.out z hz)⟩
                go_wp2_with fail
                go_meet
                exact ⟨va, vc, l, _, _, rfl, HVW.out _ HY.out.2.2.2.1, HY, HXm⟩
            · have hb0 := HXb.out.1
              have hb1 := HXb.out.2.1
              have HY : Hid (XS wT (w9.setCell ⟨b9, 0, none⟩ (.int .i64 (xh + 1))) g B b9 ⟨xh + 1, xr, xi, xl⟩ (.slice xq xl.length xc)) := HX9.out.set 0 _ _ rfl rfl
              go_wp2_with fail
              go_meet
              exact ⟨va, vc, l, _, _, rfl, HVW.out _ HY.out.2.2.2.1, HY, HXl⟩
            · have hxi : xi.size ≤ 1000 := by have := HXb.out.2.2.1; omega
              go_wp2_with fail
              refine (spoil_d g B xi _ HX9.out.2.2.1 hxi).mono ?_
              rintro e wa ⟨u, rfl, HZ, HDa, HGa⟩
              have HXa : Hid (XS wT wa g B b9 ⟨xh, xr, xi, xl⟩ (.slice xq xl.length xc)) := HX9.out.call HDa.out HGa.out
              have HY : Hid (XS wT (wa.setCell ⟨b9, 2, none⟩ (.string u)) g B b9 ⟨xh, xr, u, xl⟩ (.slice xq xl.length xc)) := HXa.out.set 2 _ _ rfl rfl
              have z2 := HXa.out.1.cell 2 rfl
              have g2 := HXa.out.1.frozen 2
              have HXm : Hid (DrC ⟨xh, xr, u, xl⟩) := ⟨HZ.out, HXl.out.2.1, HXl.out.2.2⟩
              clear x0 x1 x2 x3 f0 f2 f3 HX9
              go_wp2_with fail
              go_meet
              exact ⟨va, vc, l, _, _, rfl, HVW.out _ HY.out.2.2.2.1, HY, HXm⟩
            · have hl4 : xl.length ≤ 4 := HXb.out.2.2.2.1
              have HXm : Hid (DrC ⟨xh, xr, xi, xl ++ xl⟩) := ⟨HXl.out.1, by show (xl ++ xl).length ≤ 13; rw [List.length_append]; omega, fun z hz => HXl.out.2.2 z (by rcases List.mem_append.1 hz with h | h <;> exact h)⟩
              rcases HX9.out.2.1.2 with ⟨hq, hn⟩ | ⟨gq, cq, cur, hq, hq1, hq2, _⟩
              · simp only [Value.slice.injEq] at hq
                obtain ⟨rfl, _, rfl⟩ := hq
                have hn0 : xl = [] := List.eq_nil_of_length_eq_zero hn
                subst hn0
                have HXa : Hid (XS wT (w9.setCell ⟨b9, 3, none⟩ (.slice none 0 0)) g B b9 ⟨xh, xr, xi, []⟩ (.slice none 0 0)) := HX9.out.set 3 _ _ rfl rfl
                go_wp2_with fail
                go_meet
                exact ⟨va, vc, l, _, _, rfl, HVW.out _ HXa.out.2.2.2.1, HXa, HXl⟩
              · simp only [Value.slice.injEq] at hq
                obtain ⟨rfl, _, rfl⟩ := hq
                have HO9 : Hid (OwnS w9 wT.heap.size (.slice (some ⟨gq, 0, none⟩) xl.length xc) xl) := HX9.out.2.1
                have HN9 : Hid (∀ j u, (sgs xl)[j]? = some u → w9.cell? ((⟨gq, 0, none⟩ : Addr).add j) = some u) := by
                  intro j u hj
                  have hlt : j < xl.length * 2 := by
                    rw [← sgs_length xl]
                    exact (List.getElem?_eq_some_iff.1 hj).1
                  rw [add_at, HO9.out.cellAt j hlt]; exact hj
                have hT9 : wT.heap.size ≤ w9.heap.size := HX9.out.2.2.2.1.size
                go_wp2_with (at_builtin; refine wpList_append_own _ rfl _ _ 27 rfl wT.heap.size 62 i0 (.agg #[.int .i64 0, .string ⟨#[]⟩]) 2 24 Tryz.underlying27 hinf hz0 hz1 hz2 rfl (by decide) _ _ _ rfl HO9.out ⟨gq, 0, none⟩ xl.length xc (sgs xl) rfl (sgs_length xl) HN9.out (sgs_one _) (by unfold maxLen; omega) (by omega) hT9 ?_)
                intro v' wa hown' hgrow _
                obtain ⟨na, nc, rfl⟩ := own_shape hown'
                have HXa : Hid (XS wT (wa.setCell ⟨b9, 3, none⟩ (.slice na (xl.length + xl.length) nc)) g B b9 ⟨xh, xr, xi, xl ++ xl⟩ (.slice na (xl.length + xl.length) nc)) := XS.app HX9.out (Below.refl _ _) hgrow (by simp) hown'
                have HBa : Hid (Blk wa b9 [.int .i64 xh, .int .i64 xr, .string xi, .slice (some ⟨gq, 0, none⟩) xl.length xc] 29) := HX9.out.1.grown hgrow (fun e => own_ne HX9.out.2.1 HX9.out.1 b9 e rfl)
                have z3 := HBa.out.cell 3 rfl
                have g3 := HBa.out.frozen 3
                clear hown' hgrow x0 x1 x2 x3 f0 f2 f3 HN9 HO9
                go_wp2_with fail
                go_meet
                exact ⟨va, vc, l, _, _, rfl, HVW.out _ HXa.out.2.2.2.1, HXa, HXm⟩
            · go_wp2_with fail
              refine (some_d g B w9 HX9.out.2.2.1 (by have := HX9.out.2.2.2.1.size; omega)).mono ?_
              rintro e wa ⟨v, m, rfl, HVa, HLa, HDa, HGa⟩
              obtain ⟨ma, mc, rfl, hVa, hVab⟩ := OwnV.sl HVa.out
              have HVa' : Hid (VO wa ma m ∧ m.length ≤ 8 ∧ ∀ b o, ma = some ⟨b, o, none⟩ → w0.heap.size ≤ b) := ⟨hVa, by have := HLa.out.2.1; omega, fun b o e => by have := (hVab b o e).1; have := HX9.out.2.2.2.1.size; omega⟩
              have HXa : Hid (XS wT wa g B b9 ⟨xh, xr, xi, xl⟩ (.slice xq xl.length xc)) := HX9.out.call HDa.out HGa.out
              clear x0 x1 x2 x3 f0 f2 f3 HX9 HVa hVa hVab HDa HGa
              go_wp2_with fail
              go_meet
              exact ⟨ma, mc, m, _, _, rfl, HVa', HXa, HXl⟩
            · go_wp2_with fail
              refine (below_d g B 2 _ HX9.out.2.2.1 (by omega)).mono ?_
              rintro e wa ⟨n2, rfl, n0, n1, HDa, HGa⟩
              have HXa : Hid (XS wT wa g B b9 ⟨xh, xr, xi, xl⟩ (.slice xq xl.length xc)) := HX9.out.call HDa.out HGa.out
              obtain ⟨nn, hnn⟩ : ∃ nn : Nat, 12 + n2 = (nn : Int) := ⟨(12 + n2).toNat, by omega⟩
              have hn13 : nn ≤ 13 := by omega
              clear x0 x1 x2 x3 f0 f2 f3 HX9 HDa HGa n0 n1
              go_wp2
              go_loopg [] 13 (fun m wl => ∃ (x : Ct) (q : Value), Hid (XS wT wl g B b9 x q) ∧ Hid (DrC x) ∧ nn ≤ x.l.length + m)
              case atStart => exact ⟨_, _, HXa, HXl, by omega⟩
              case round =>
                obtain ⟨x, q, HX, HXd, hxm⟩ := hrel
                clear HXa HXb HXl
                obtain ⟨xh, xr, xi, xl⟩ := x
                simp only at hxm
                have hl13 : xl.length ≤ 13 := HXd.out.2.1
                obtain ⟨xq, xc, rfl⟩ := own_shape HX.out.2.1
                have x3 := HX.out.1.cell 3 rfl
                by_cases hlt : xl.length < nn
                · have hltz : (xl.length : Int) < (nn : Int) := by omega
                  go_wp2_with fail
                  have HX0 : Hid (XS wT wr.drew g B b9 ⟨xh, xr, xi, xl⟩ (.slice xq xl.length xc)) := HX.out.below (Below.refl _ _).drew
                  clear x3
                  refine wp_region_held_drew (S := (fun _ : World => True)) (by kernel_rfl) ?_ (fun hHeld => ?_)
                  · exact trivial
                  refine wpAnyH_take (i := 0) (oi := { dst := Option.some 53, op := Go.Op.fieldAddr 29 (Go.Operand.tmp 9) 3, type := 0, pos := "l09_commit.go:110", after := #[], guard := Option.none }) (v := ?_) rfl (by kernel_rfl) (by kernel_rfl) (by kernel_rfl) (fun _ _ _ h => h) (Or.inl ⟨by rfl, ?_⟩) hHeld ?_
                  rotate_left
                  · intro w hSw
                    try dsimp only at hSw
                    go_simp
                    try (with_reducible rfl)
                  simp only [Act.put, List.setIfInBounds_toArray, List.set_cons_zero, List.set_cons_succ]
                  refine wpAnyH_take (i := 2) (oi := { dst := Option.some 55, op := Go.Op.move (Go.Operand.tmp 0), type := 52, pos := "l09_commit.go:110", after := #[], guard := Option.none }) (v := ?_) rfl (by kernel_rfl) (by kernel_rfl) (by kernel_rfl) (fun _ _ _ h => h) (Or.inl ⟨by rfl, ?_⟩) hHeld ?_
                  rotate_left
                  · intro w hSw
                    try dsimp only at hSw
                    go_simp
                    try (with_reducible rfl)
                  simp only [Act.put, List.setIfInBounds_toArray, List.set_cons_zero, List.set_cons_succ]
                  refine wpAnyH_ready (rs := [1, 3]) (by kernel_rfl) (by decide) ?_
                  refine AllReadyH.cons (o := { dst := Option.some 54, op := Go.Op.load 27 (Go.Operand.tmp 53), type := 27, pos := "l09_commit.go:110", after := #[{ on := 0, ground := Go.Ground.data }], guard := Option.none }) rfl (fun K hK => ?_) (AllReadyH.cons (o := { dst := Option.some 56, op := Go.Op.call { callee := Go.Callee.value (Go.Operand.func 49), args := #[Go.Operand.tmp 55, Go.Operand.const (Go.Value.int Go.IntKind.i64 99)], argTypes := #[52, 3] }, type := 3, pos := "l09_commit.go:110", after := #[{ on := 2, ground := Go.Ground.data }], guard := Option.none }) rfl (fun K hK => ?_) AllReadyH.nil)
                  · have c3 := HX0.out.1.cell 3 rfl
                    go_simp
                    refine hK.out _ _ (trivial) (fun hHeld => ?_)
                    clear hK K
                    try simp only [Act.put, List.setIfInBounds_toArray, List.set_cons_zero, List.set_cons_succ]
                    refine wpAnyH_ready (rs := [3]) (by kernel_rfl) (by decide) ?_
                    refine AllReadyH.cons (o := { dst := Option.some 56, op := Go.Op.call { callee := Go.Callee.value (Go.Operand.func 49), args := #[Go.Operand.tmp 55, Go.Operand.const (Go.Value.int Go.IntKind.i64 99)], argTypes := #[52, 3] }, type := 3, pos := "l09_commit.go:110", after := #[{ on := 2, ground := Go.Ground.data }], guard := Option.none }) rfl (fun K hK => ?_) AllReadyH.nil
                    go_simp
                    go_at_call 49
                    refine (below_d g B 99 _ HX0.out.2.2.1 (by omega)).mono ?_
                    rintro e wb ⟨y, rfl, y0, y1, HDb, HGb⟩
                    have HXb : Hid (XS wT wb g B b9 ⟨xh, xr, xi, xl⟩ (.slice xq xl.length xc)) := HX0.out.call HDb.out HGb.out
                    clear HDb HGb
                    have hwr : IntKind.i64.wrap (1 + y) = 1 + y := by rw [IntKind.wrap_i64]; omega
                    refine hK.out _ _ (trivial) (fun hHeld => ?_)
                    clear hK K
                    try simp only [Act.put, List.setIfInBounds_toArray, List.set_cons_zero, List.set_cons_succ]
                    refine wpAnyH_take (i := 4) (oi := { dst := Option.some 57, op := Go.Op.binOp Go.BinOp.add 3 (Go.Operand.const (Go.Value.int Go.IntKind.i64 1)) (Go.Operand.tmp 56) 3, type := 3, pos := "l09_commit.go:110", after := #[{ on := 3, ground := Go.Ground.data }], guard := Option.none }) (v := ?_) rfl (by kernel_rfl) (by kernel_rfl) (by kernel_rfl) (fun _ _ _ h => h) (Or.inl ⟨by rfl, ?_⟩) hHeld ?_
                    rotate_left
                    · intro w hSw
                      try dsimp only at hSw
                      go_simp
                      try (with_reducible rfl)
                    simp only [Act.put, List.setIfInBounds_toArray, List.set_cons_zero, List.set_cons_succ]
                    refine wpAnyH_take (i := 5) (oi := { dst := Option.some 58, op := Go.Op.build 62 #[(0, Go.Operand.tmp 57)], type := 62, pos := "l09_commit.go:110", after := #[{ on := 4, ground := Go.Ground.data }], guard := Option.none }) (v := ?_) rfl (by kernel_rfl) (by kernel_rfl) (by kernel_rfl) (fun _ _ _ h => h) (Or.inl ⟨by rfl, ?_⟩) hHeld ?_
                    rotate_left
                    · intro w hSw
                      try dsimp only at hSw
                      go_simp
                      try (with_reducible rfl)
                    simp only [Act.put, List.setIfInBounds_toArray, List.set_cons_zero, List.set_cons_succ]
                    refine wpAnyH_ready (rs := [6]) (by kernel_rfl) (by decide) ?_
                    refine AllReadyH.cons (o := { dst := Option.some 59, op := Go.Op.buildSlice 27 1 #[(0, Go.Operand.tmp 58)], type := 27, pos := "l09_commit.go:110", after := #[{ on := 5, ground := Go.Ground.data }], guard := Option.none }) rfl (fun K hK => ?_) AllReadyH.nil
                    have HXs : Hid (XS wT (wb.alloc (.cells #[.int .i64 (1 + y), .string ⟨#[]⟩] 62)) g B b9 ⟨xh, xr, xi, xl⟩ (.slice xq xl.length xc)) := HXb.out.below (below_one _ _)
                    go_simp
                    refine hK.out _ _ (trivial) (fun hHeld => ?_)
                    clear hK K
                    try simp only [Act.put, List.setIfInBounds_toArray, List.set_cons_zero, List.set_cons_succ]
                    refine wpAnyH_ready (rs := [7]) (by kernel_rfl) (by decide) ?_
                    refine AllReadyH.cons (o := { dst := Option.some 60, op := Go.Op.call { callee := Go.Callee.builtin Go.Builtin.append, args := #[Go.Operand.tmp 54, Go.Operand.tmp 59], argTypes := #[27, 27] }, type := 27, pos := "l09_commit.go:110", after := #[{ on := 1, ground := Go.Ground.data }, { on := 6, ground := Go.Ground.data }, { on := 3, ground := Go.Ground.chain }], guard := Option.none }) rfl (fun K hK => ?_) AllReadyH.nil
                    have HOs : Hid (OwnS (wb.alloc (.cells #[.int .i64 (1 + y), .string ⟨#[]⟩] 62)) wT.heap.size (.slice xq xl.length xc) xl) := HXs.out.2.1
                    have HCs : Hid (_) := one_sg wb ⟨1 + y, ⟨#[]⟩⟩ wb.heap.size rfl
                    have hTb : wT.heap.size ≤ wb.heap.size := HXb.out.2.2.2.1.size
                    refine step_append_row (by rfl) _ _ 27 (by rfl) wT.heap.size 62 i0 (.agg #[.int .i64 0, .string ⟨#[]⟩]) 2 24 Tryz.underlying27 hinf hz0 hz1 hz2 rfl (by decide) _ _ _ (by rfl) HOs.out ⟨wb.heap.size, 0, none⟩ 1 1 (sgs [⟨1 + y, ⟨#[]⟩⟩]) (by rfl) (by rfl) HCs.out (sgs_one _) (by unfold maxLen; omega) (by omega) (by simp; omega) ?_
                    intro v9 wc hown9 hgrow9 _
                    obtain ⟨na, nc, rfl⟩ := own_shape hown9
                    have HXc : Hid (Blk wc b9 [.int .i64 xh, .int .i64 xr, .string xi, .slice xq xl.length xc] 29) := HXs.out.1.grown hgrow9 (fun e => own_ne HXs.out.2.1 HXs.out.1 b9 e rfl)
                    have HF : Hid (XS wT (wc.setCell ⟨b9, 3, none⟩ (.slice na (xl.length + 1) nc)) g B b9 ⟨xh, xr, xi, xl ++ [⟨1 + y, ⟨#[]⟩⟩]⟩ (.slice na (xl.length + 1) nc)) := XS.app HXb.out (below_one _ _) hgrow9 (by simp) hown9
                    clear hown9 hgrow9
                    refine hK.out _ _ (trivial) (fun hHeld => ?_)
                    clear hK K
                    try simp only [Act.put, List.setIfInBounds_toArray, List.set_cons_zero, List.set_cons_succ]
                    refine wpAnyH_take (i := 8) (oi := { dst := Option.some 61, op := Go.Op.fieldAddr 29 (Go.Operand.tmp 9) 3, type := 0, pos := "l09_commit.go:110", after := #[{ on := 0, ground := Go.Ground.phase }, { on := 1, ground := Go.Ground.phase }, { on := 2, ground := Go.Ground.phase }, { on := 3, ground := Go.Ground.phase }, { on := 4, ground := Go.Ground.phase }, { on := 5, ground := Go.Ground.phase }, { on := 6, ground := Go.Ground.phase }, { on := 7, ground := Go.Ground.phase }], guard := Option.none }) (v := ?_) rfl (by kernel_rfl) (by kernel_rfl) (by kernel_rfl) (fun _ _ _ h => h) (Or.inl ⟨by rfl, ?_⟩) hHeld ?_
                    rotate_left
                    · intro w hSw
                      try dsimp only at hSw
                      go_simp
                      try (with_reducible rfl)
                    simp only [Act.put, List.setIfInBounds_toArray, List.set_cons_zero, List.set_cons_succ]
                    refine wpAnyH_ready (rs := [9]) (by kernel_rfl) (by decide) ?_
                    refine AllReadyH.cons (o := { dst := Option.none, op := Go.Op.store 27 (Go.Operand.tmp 61) (Go.Operand.tmp 60), type := 0, pos := "l09_commit.go:110", after := #[{ on := 8, ground := Go.Ground.data }, { on := 7, ground := Go.Ground.data }, { on := 7, ground := Go.Ground.chain }, { on := 0, ground := Go.Ground.phase }, { on := 1, ground := Go.Ground.phase }, { on := 2, ground := Go.Ground.phase }, { on := 3, ground := Go.Ground.phase }, { on := 4, ground := Go.Ground.phase }, { on := 5, ground := Go.Ground.phase }, { on := 6, ground := Go.Ground.phase }, { on := 7, ground := Go.Ground.phase }], guard := Option.none }) rfl (fun K hK => ?_) AllReadyH.nil
                    have z3 := HXc.out.cell 3 rfl
                    have g3 := HXc.out.frozen 3
                    go_simp
                    refine hK.out _ _ (trivial) (fun hHeld => ?_)
                    clear hK K
                    try simp only [Act.put, List.setIfInBounds_toArray, List.set_cons_zero, List.set_cons_succ]
                    refine wpAnyH_done (by kernel_rfl) ?_ _
                    have HDm : Hid (DrC ⟨xh, xr, xi, xl ++ [⟨1 + y, ⟨#[]⟩⟩]⟩) := ⟨HXd.out.1, by show (xl ++ [_]).length ≤ 13; rw [List.length_append]; show xl.length + 1 ≤ 13; omega, fun z hz => by (rcases List.mem_append.1 hz with hz | hz; exact HXd.out.2.2 z hz; simp at hz; subst hz; exact Nat.zero_le _)⟩
                    go_wp2
                    go_roundg (gk - 1)
                    case measure => omega
                    case rel => exact ⟨_, _, HF, HDm, by show nn ≤ (xl ++ [_]).length + _; rw [List.length_append]; show nn ≤ xl.length + 1 + _; omega⟩
                  · go_simp
                    go_at_call 49
                    refine (below_d g B 99 _ HX0.out.2.2.1 (by omega)).mono ?_
                    rintro e wb ⟨y, rfl, y0, y1, HDb, HGb⟩
                    have HXb : Hid (XS wT wb g B b9 ⟨xh, xr, xi, xl⟩ (.slice xq xl.length xc)) := HX0.out.call HDb.out HGb.out
                    clear HDb HGb
                    have hwr : IntKind.i64.wrap (1 + y) = 1 + y := by rw [IntKind.wrap_i64]; omega
                    refine hK.out _ _ (trivial) (fun hHeld => ?_)
                    clear hK K
                    try simp only [Act.put, List.setIfInBounds_toArray, List.set_cons_zero, List.set_cons_succ]
                    refine wpAnyH_take (i := 4) (oi := { dst := Option.some 57, op := Go.Op.binOp Go.BinOp.add 3 (Go.Operand.const (Go.Value.int Go.IntKind.i64 1)) (Go.Operand.tmp 56) 3, type := 3, pos := "l09_commit.go:110", after := #[{ on := 3, ground := Go.Ground.data }], guard := Option.none }) (v := ?_) rfl (by kernel_rfl) (by kernel_rfl) (by kernel_rfl) (fun _ _ _ h => h) (Or.inl ⟨by rfl, ?_⟩) hHeld ?_
                    rotate_left
                    · intro w hSw
                      try dsimp only at hSw
                      go_simp
                      try (with_reducible rfl)
                    simp only [Act.put, List.setIfInBounds_toArray, List.set_cons_zero, List.set_cons_succ]
                    refine wpAnyH_take (i := 5) (oi := { dst := Option.some 58, op := Go.Op.build 62 #[(0, Go.Operand.tmp 57)], type := 62, pos := "l09_commit.go:110", after := #[{ on := 4, ground := Go.Ground.data }], guard := Option.none }) (v := ?_) rfl (by kernel_rfl) (by kernel_rfl) (by kernel_rfl) (fun _ _ _ h => h) (Or.inl ⟨by rfl, ?_⟩) hHeld ?_
                    rotate_left
                    · intro w hSw
                      try dsimp only at hSw
                      go_simp
                      try (with_reducible rfl)
                    simp only [Act.put, List.setIfInBounds_toArray, List.set_cons_zero, List.set_cons_succ]
                    refine wpAnyH_ready (rs := [1, 6]) (by kernel_rfl) (by decide) ?_
                    refine AllReadyH.cons (o := { dst := Option.some 54, op := Go.Op.load 27 (Go.Operand.tmp 53), type := 27, pos := "l09_commit.go:110", after := #[{ on := 0, ground := Go.Ground.data }], guard := Option.none }) rfl (fun K hK => ?_) (AllReadyH.cons (o := { dst := Option.some 59, op := Go.Op.buildSlice 27 1 #[(0, Go.Operand.tmp 58)], type := 27, pos := "l09_commit.go:110", after := #[{ on := 5, ground := Go.Ground.data }], guard := Option.none }) rfl (fun K hK => ?_) AllReadyH.nil)
                    · have c3 := HXb.out.1.cell 3 rfl
                      go_simp
                      refine hK.out _ _ (trivial) (fun hHeld => ?_)
                      clear hK K
                      try simp only [Act.put, List.setIfInBounds_toArray, List.set_cons_zero, List.set_cons_succ]
                      refine wpAnyH_ready (rs := [6]) (by kernel_rfl) (by decide) ?_
                      refine AllReadyH.cons (o := { dst := Option.some 59, op := Go.Op.buildSlice 27 1 #[(0, Go.Operand.tmp 58)], type := 27, pos := "l09_commit.go:110", after := #[{ on := 5, ground := Go.Ground.data }], guard := Option.none }) rfl (fun K hK => ?_) AllReadyH.nil
                      have HXs : Hid (XS wT (wb.alloc (.cells #[.int .i64 (1 + y), .string ⟨#[]⟩] 62)) g B b9 ⟨xh, xr, xi, xl⟩ (.slice xq xl.length xc)) := HXb.out.below (below_one _ _)
                      go_simp
                      refine hK.out _ _ (trivial) (fun hHeld => ?_)
                      clear hK K
                      try simp only [Act.put, List.setIfInBounds_toArray, List.set_cons_zero, List.set_cons_succ]
                      refine wpAnyH_ready (rs := [7]) (by kernel_rfl) (by decide) ?_
                      refine AllReadyH.cons (o := { dst := Option.some 60, op := Go.Op.call { callee := Go.Callee.builtin Go.Builtin.append, args := #[Go.Operand.tmp 54, Go.Operand.tmp 59], argTypes := #[27, 27] }, type := 27, pos := "l09_commit.go:110", after := #[{ on := 1, ground := Go.Ground.data }, { on := 6, ground := Go.Ground.data }, { on := 3, ground := Go.Ground.chain }], guard := Option.none }) rfl (fun K hK => ?_) AllReadyH.nil
                      have HOs : Hid (OwnS (wb.alloc (.cells #[.int .i64 (1 + y), .string ⟨#[]⟩] 62)) wT.heap.size (.slice xq xl.length xc) xl) := HXs.out.2.1
                      have HCs : Hid (_) := one_sg wb ⟨1 + y, ⟨#[]⟩⟩ wb.heap.size rfl
                      have hTb : wT.heap.size ≤ wb.heap.size := HXb.out.2.2.2.1.size
                      refine step_append_row (by rfl) _ _ 27 (by rfl) wT.heap.size 62 i0 (.agg #[.int .i64 0, .string ⟨#[]⟩]) 2 24 Tryz.underlying27 hinf hz0 hz1 hz2 rfl (by decide) _ _ _ (by rfl) HOs.out ⟨wb.heap.size, 0, none⟩ 1 1 (sgs [⟨1 + y, ⟨#[]⟩⟩]) (by rfl) (by rfl) HCs.out (sgs_one _) (by unfold maxLen; omega) (by omega) (by simp; omega) ?_
                      intro v9 wc hown9 hgrow9 _
                      obtain ⟨na, nc, rfl⟩ := own_shape hown9
                      have HXc : Hid (Blk wc b9 [.int .i64 xh, .int .i64 xr, .string xi, .slice xq xl.length xc] 29) := HXs.out.1.grown hgrow9 (fun e => own_ne HXs.out.2.1 HXs.out.1 b9 e rfl)
                      have HF : Hid (XS wT (wc.setCell ⟨b9, 3, none⟩ (.slice na (xl.length + 1) nc)) g B b9 ⟨xh, xr, xi, xl ++ [⟨1 + y, ⟨#[]⟩⟩]⟩ (.slice na (xl.length + 1) nc)) := XS.app HXb.out (below_one _ _) hgrow9 (by simp) hown9
                      clear hown9 hgrow9
                      refine hK.out _ _ (trivial) (fun hHeld => ?_)
                      clear hK K
                      try simp only [Act.put, List.setIfInBounds_toArray, List.set_cons_zero, List.set_cons_succ]
                      refine wpAnyH_take (i := 8) (oi := { dst := Option.some 61, op := Go.Op.fieldAddr 29 (Go.Operand.tmp 9) 3, type := 0, pos := "l09_commit.go:110", after := #[{ on := 0, ground := Go.Ground.phase }, { on := 1, ground := Go.Ground.phase }, { on := 2, ground := Go.Ground.phase }, { on := 3, ground := Go.Ground.phase }, { on := 4, ground := Go.Ground.phase }, { on := 5, ground := Go.Ground.phase }, { on := 6, ground := Go.Ground.phase }, { on := 7, ground := Go.Ground.phase }], guard := Option.none }) (v := ?_) rfl (by kernel_rfl) (by kernel_rfl) (by kernel_rfl) (fun _ _ _ h => h) (Or.inl ⟨by rfl, ?_⟩) hHeld ?_
                      rotate_left
                      · intro w hSw
                        try dsimp only at hSw
                        go_simp
                        try (with_reducible rfl)
                      simp only [Act.put, List.setIfInBounds_toArray, List.set_cons_zero, List.set_cons_succ]
                      refine wpAnyH_ready (rs := [9]) (by kernel_rfl) (by decide) ?_
                      refine AllReadyH.cons (o := { dst := Option.none, op := Go.Op.store 27 (Go.Operand.tmp 61) (Go.Operand.tmp 60), type := 0, pos := "l09_commit.go:110", after := #[{ on := 8, ground := Go.Ground.data }, { on := 7, ground := Go.Ground.data }, { on := 7, ground := Go.Ground.chain }, { on := 0, ground := Go.Ground.phase }, { on := 1, ground := Go.Ground.phase }, { on := 2, ground := Go.Ground.phase }, { on := 3, ground := Go.Ground.phase }, { on := 4, ground := Go.Ground.phase }, { on := 5, ground := Go.Ground.phase }, { on := 6, ground := Go.Ground.phase }, { on := 7, ground := Go.Ground.phase }], guard := Option.none }) rfl (fun K hK => ?_) AllReadyH.nil
                      have z3 := HXc.out.cell 3 rfl
                      have g3 := HXc.out.frozen 3
                      go_simp
                      refine hK.out _ _ (trivial) (fun hHeld => ?_)
                      clear hK K
                      try simp only [Act.put, List.setIfInBounds_toArray, List.set_cons_zero, List.set_cons_succ]
                      refine wpAnyH_done (by kernel_rfl) ?_ _
                      have HDm : Hid (DrC ⟨xh, xr, xi, xl ++ [⟨1 + y, ⟨#[]⟩⟩]⟩) := ⟨HXd.out.1, by show (xl ++ [_]).length ≤ 13; rw [List.length_append]; show xl.length + 1 ≤ 13; omega, fun z hz => by (rcases List.mem_append.1 hz with hz | hz; exact HXd.out.2.2 z hz; simp at hz; subst hz; exact Nat.zero_le _)⟩
                      go_wp2
                      go_roundg (gk - 1)
                      case measure => omega
                      case rel => exact ⟨_, _, HF, HDm, by show nn ≤ (xl ++ [_]).length + _; rw [List.length_append]; show nn ≤ xl.length + 1 + _; omega⟩
                    · have HXs : Hid (XS wT (wb.alloc (.cells #[.int .i64 (1 + y), .string ⟨#[]⟩] 62)) g B b9 ⟨xh, xr, xi, xl⟩ (.slice xq xl.length xc)) := HXb.out.below (below_one _ _)
                      go_simp
                      refine hK.out _ _ (trivial) (fun hHeld => ?_)
                      clear hK K
                      try simp only [Act.put, List.setIfInBounds_toArray, List.set_cons_zero, List.set_cons_succ]
                      refine wpAnyH_ready (rs := [1]) (by kernel_rfl) (by decide) ?_
                      refine AllReadyH.cons (o := { dst := Option.some 54, op := Go.Op.load 27 (Go.Operand.tmp 53), type := 27, pos := "l09_commit.go:110", after := #[{ on := 0, ground := Go.Ground.data }], guard := Option.none }) rfl (fun K hK => ?_) AllReadyH.nil
                      have c3 := HXs.out.1.cell 3 rfl
                      go_simp
                      refine hK.out _ _ (trivial) (fun hHeld => ?_)
                      clear hK K
                      try simp only [Act.put, List.setIfInBounds_toArray, List.set_cons_zero, List.set_cons_succ]
                      refine wpAnyH_ready (rs := [7]) (by kernel_rfl) (by decide) ?_
                      refine AllReadyH.cons (o := { dst := Option.some 60, op := Go.Op.call { callee := Go.Callee.builtin Go.Builtin.append, args := #[Go.Operand.tmp 54, Go.Operand.tmp 59], argTypes := #[27, 27] }, type := 27, pos := "l09_commit.go:110", after := #[{ on := 1, ground := Go.Ground.data }, { on := 6, ground := Go.Ground.data }, { on := 3, ground := Go.Ground.chain }], guard := Option.none }) rfl (fun K hK => ?_) AllReadyH.nil
                      have HOs : Hid (OwnS (wb.alloc (.cells #[.int .i64 (1 + y), .string ⟨#[]⟩] 62)) wT.heap.size (.slice xq xl.length xc) xl) := HXs.out.2.1
                      have HCs : Hid (_) := one_sg wb ⟨1 + y, ⟨#[]⟩⟩ wb.heap.size rfl
                      have hTb : wT.heap.size ≤ wb.heap.size := HXb.out.2.2.2.1.size
                      refine step_append_row (by rfl) _ _ 27 (by rfl) wT.heap.size 62 i0 (.agg #[.int .i64 0, .string ⟨#[]⟩]) 2 24 Tryz.underlying27 hinf hz0 hz1 hz2 rfl (by decide) _ _ _ (by rfl) HOs.out ⟨wb.heap.size, 0, none⟩ 1 1 (sgs [⟨1 + y, ⟨#[]⟩⟩]) (by rfl) (by rfl) HCs.out (sgs_one _) (by unfold maxLen; omega) (by omega) (by simp; omega) ?_
                      intro v9 wc hown9 hgrow9 _
                      obtain ⟨na, nc, rfl⟩ := own_shape hown9
                      have HXc : Hid (Blk wc b9 [.int .i64 xh, .int .i64 xr, .string xi, .slice xq xl.length xc] 29) := HXs.out.1.grown hgrow9 (fun e => own_ne HXs.out.2.1 HXs.out.1 b9 e rfl)
                      have HF : Hid (XS wT (wc.setCell ⟨b9, 3, none⟩ (.slice na (xl.length + 1) nc)) g B b9 ⟨xh, xr, xi, xl ++ [⟨1 + y, ⟨#[]⟩⟩]⟩ (.slice na (xl.length + 1) nc)) := XS.app HXb.out (below_one _ _) hgrow9 (by simp) hown9
                      clear hown9 hgrow9
                      refine hK.out _ _ (trivial) (fun hHeld => ?_)
                      clear hK K
                      try simp only [Act.put, List.setIfInBounds_toArray, List.set_cons_zero, List.set_cons_succ]
                      refine wpAnyH_take (i := 8) (oi := { dst := Option.some 61, op := Go.Op.fieldAddr 29 (Go.Operand.tmp 9) 3, type := 0, pos := "l09_commit.go:110", after := #[{ on := 0, ground := Go.Ground.phase }, { on := 1, ground := Go.Ground.phase }, { on := 2, ground := Go.Ground.phase }, { on := 3, ground := Go.Ground.phase }, { on := 4, ground := Go.Ground.phase }, { on := 5, ground := Go.Ground.phase }, { on := 6, ground := Go.Ground.phase }, { on := 7, ground := Go.Ground.phase }], guard := Option.none }) (v := ?_) rfl (by kernel_rfl) (by kernel_rfl) (by kernel_rfl) (fun _ _ _ h => h) (Or.inl ⟨by rfl, ?_⟩) hHeld ?_
                      rotate_left
                      · intro w hSw
                        try dsimp only at hSw
                        go_simp
                        try (with_reducible rfl)
                      simp only [Act.put, List.setIfInBounds_toArray, List.set_cons_zero, List.set_cons_succ]
                      refine wpAnyH_ready (rs := [9]) (by kernel_rfl) (by decide) ?_
                      refine AllReadyH.cons (o := { dst := Option.none, op := Go.Op.store 27 (Go.Operand.tmp 61) (Go.Operand.tmp 60), type := 0, pos := "l09_commit.go:110", after := #[{ on := 8, ground := Go.Ground.data }, { on := 7, ground := Go.Ground.data }, { on := 7, ground := Go.Ground.chain }, { on := 0, ground := Go.Ground.phase }, { on := 1, ground := Go.Ground.phase }, { on := 2, ground := Go.Ground.phase }, { on := 3, ground := Go.Ground.phase }, { on := 4, ground := Go.Ground.phase }, { on := 5, ground := Go.Ground.phase }, { on := 6, ground := Go.Ground.phase }, { on := 7, ground := Go.Ground.phase }], guard := Option.none }) rfl (fun K hK => ?_) AllReadyH.nil
                      have z3 := HXc.out.cell 3 rfl
                      have g3 := HXc.out.frozen 3
                      go_simp
                      refine hK.out _ _ (trivial) (fun hHeld => ?_)
                      clear hK K
                      try simp only [Act.put, List.setIfInBounds_toArray, List.set_cons_zero, List.set_cons_succ]
                      refine wpAnyH_done (by kernel_rfl) ?_ _
                      have HDm : Hid (DrC ⟨xh, xr, xi, xl ++ [⟨1 + y, ⟨#[]⟩⟩]⟩) := ⟨HXd.out.1, by show (xl ++ [_]).length ≤ 13; rw [List.length_append]; show xl.length + 1 ≤ 13; omega, fun z hz => by (rcases List.mem_append.1 hz with hz | hz; exact HXd.out.2.2 z hz; simp at hz; subst hz; exact Nat.zero_le _)⟩
                      go_wp2
                      go_roundg (gk - 1)
                      case measure => omega
                      case rel => exact ⟨_, _, HF, HDm, by show nn ≤ (xl ++ [_]).length + _; rw [List.length_append]; show nn ≤ xl.length + 1 + _; omega⟩
                · have hltz : ¬ (xl.length : Int) < (nn : Int) := by omega
                  go_wp2_with fail
                  go_meet
                  exact ⟨va, vc, l, _, _, rfl, HVW.out _ HX.out.2.2.2.1, HX, HXd⟩
        case rest =>
          rename World => we
          obtain ⟨ea, ec, m, x, q, rfl, HVe, HXe, HXd⟩ := hcut
          obtain ⟨xh, xr, xi, xl⟩ := x
          obtain ⟨xq, xc, rfl⟩ := own_shape HXe.out.2.1
          have HGe : Hid (w.grownBy we (some g)) := grown_trans (grown_trans HG0.out HGT.out) HXe.out.2.2.2.1
          have HG0e : Hid (w0.grownBy we (some g)) := grown_trans HGT.out HXe.out.2.2.2.1
          have HE6 : Hid (Blk we b6 [.int .i64 yh, .int .i64 yt, .string ya, .string yw, .string yn, .string yd] 26) := HHT.out.grown HXe.out.2.2.2.1 (by simp; omega)
          have HE9 : Hid (Blk we b9 [.int .i64 xh, .int .i64 xr, .string xi, .slice xq xl.length xc] 29) := HXe.out.1
          have HQ6 : Hid (Blk we w.heap.size [.int .i64 0, .int .i64 0, .string ⟨#[]⟩, .string ⟨#[]⟩, .string ⟨#[]⟩, .string ⟨#[]⟩] 26) := HP6.out.grown HG0e.out (by simp; omega)
          have HQ4 : Hid (Blk we (w.heap.size + 1) [.int .i64 0, .int .i64 0, .string ⟨#[]⟩, .slice none 0 0] 29) := HP4.out.grown HG0e.out (by simp; omega)
          have hn9 : wT.heap.size ≤ b9 := HXe.out.2.2.2.2.1
          have HSO : Hid (SO we xq xl ∧ ∀ b o, xq = some ⟨b, o, none⟩ → w0.heap.size ≤ b) := ⟨(OwnS.sl HXe.out.2.1).1, fun b o e => by have := (OwnS.sl HXe.out.2.1).2 b o e; omega⟩
          have HDe : Hid (DS we g B) := HXe.out.2.2.1
          have HYf : Hid (DrH ⟨yh, yt, ya, yw, yn, yd⟩) := ⟨HY.out.1, HY.out.2.1, HY.out.2.2.1, HY.out.2.2.2.1, HY.out.2.2.2.2.1, by show yw.size ≤ 40; omega, HY.out.2.2.2.2.2.2.1, HY.out.2.2.2.2.2.2.2⟩
          clear HX8
          go_wp2_with fail
          refine wp_region_held_drew (S := (fun W : World => (W.cell? ⟨b6, 0, none⟩ = some (.int .i64 yh) ∧ W.cell? ⟨b6, 1, none⟩ = some (.int .i64 yt) ∧ W.cell? ⟨b6, 2, none⟩ = some (.string ya) ∧ W.cell? ⟨b6, 3, none⟩ = some (.string yw) ∧ W.cell? ⟨b6, 4, none⟩ = some (.string yn) ∧ W.cell? ⟨b6, 5, none⟩ = some (.string yd)) ∧ W.cell? ⟨b9, 0, none⟩ = some (.int .i64 xh) ∧ W.cell? ⟨b9, 1, none⟩ = some (.int .i64 xr) ∧ W.cell? ⟨b9, 2, none⟩ = some (.string xi) ∧ W.cell? ⟨b9, 3, none⟩ = some (.slice xq xl.length xc))) (by kernel_rfl) ?_ (fun hHeld => ?_)
          · exact ⟨⟨(HE6.out).cell 0 rfl, (HE6.out).cell 1 rfl, (HE6.out).cell 2 rfl, (HE6.out).cell 3 rfl, (HE6.out).cell 4 rfl, (HE6.out).cell 5 rfl⟩, (HE9.out).cell 0 rfl, (HE9.out).cell 1 rfl, (HE9.out).cell 2 rfl, (HE9.out).cell 3 rfl⟩
          have HE6d : Hid (Blk we.drew b6 [.int .i64 yh, .int .i64 yt, .string ya, .string yw, .string yn, .string yd] 26) := HE6.out
          have HE9d : Hid (Blk we.drew b9 [.int .i64 xh, .int .i64 xr, .string xi, .slice xq xl.length xc] 29) := HE9.out
          have HQ6d : Hid (Blk we.drew w.heap.size [.int .i64 0, .int .i64 0, .string ⟨#[]⟩, .string ⟨#[]⟩, .string ⟨#[]⟩, .string ⟨#[]⟩] 26) := HQ6.out
          have HQ4d : Hid (Blk we.drew (w.heap.size + 1) [.int .i64 0, .int .i64 0, .string ⟨#[]⟩, .slice none 0 0] 29) := HQ4.out
          have HVd : Hid (VO we.drew ea m ∧ m.length ≤ 8 ∧ ∀ b o, ea = some ⟨b, o, none⟩ → w0.heap.size ≤ b) := HVe
          have HSd : Hid (SO we.drew xq xl ∧ ∀ b o, xq = some ⟨b, o, none⟩ → w0.heap.size ≤ b) := HSO
          have HDd : Hid (DS we.drew g B) := HDe.out.below (Below.refl _ _).drew
          have HGd : Hid (w.grownBy we.drew (some g)) := gr_below HGe.out (Below.refl _ _).drew
          clear HE6 HE9 HQ6 HQ4 HXe HVe HSO HDe HGe HG0e
          generalize we.drew = wd at *
          refine wpAnyH_take (i := 0) (oi := { dst := Option.some 104, op := Go.Op.move (Go.Operand.tmp 5), type := 24, pos := "l09_commit.go:114", after := #[], guard := Option.none }) (v := ?_) rfl (by kernel_rfl) (by kernel_rfl) (by kernel_rfl) (fun _ _ _ h => h) (Or.inl ⟨by rfl, ?_⟩) hHeld ?_
          rotate_left
          · intro w hSw
            try dsimp only at hSw
            go_simp
            try (with_reducible rfl)
          simp only [Act.put, List.setIfInBounds_toArray, List.set_cons_zero, List.set_cons_succ]
          refine wpAnyH_take (i := 1) (oi := { dst := Option.some 105, op := Go.Op.load 26 (Go.Operand.tmp 6), type := 26, pos := "l09_commit.go:114", after := #[{ on := 3, ground := Go.Ground.gcOnly Go.Departure.lateStores }], guard := Option.none }) (v := ?_) rfl (by kernel_rfl) (by kernel_rfl) (by kernel_rfl) (fun _ _ _ h => h) (Or.inl ⟨by rfl, ?_⟩) hHeld ?_
          rotate_left
          · intro w hSw
            try dsimp only at hSw
            go_simp
            try (with_reducible rfl)
          simp only [Act.put, List.setIfInBounds_toArray, List.set_cons_zero, List.set_cons_succ]
          refine wpAnyH_take (i := 2) (oi := { dst := Option.some 106, op := Go.Op.load 29 (Go.Operand.tmp 9), type := 29, pos := "l09_commit.go:114", after := #[{ on := 4, ground := Go.Ground.gcOnly Go.Departure.lateStores }], guard := Option.none }) (v := ?_) rfl (by kernel_rfl) (by kernel_rfl) (by kernel_rfl) (fun _ _ _ h => h) (Or.inl ⟨by rfl, ?_⟩) hHeld ?_
          rotate_left
          · intro w hSw
            try dsimp only at hSw
            go_simp
            try (with_reducible rfl)
          simp only [Act.put, List.setIfInBounds_toArray, List.set_cons_zero, List.set_cons_succ]
          refine wpAnyH_take (i := 3) (oi := { dst := Option.some 2, op := Go.Op.assign (Go.Operand.tmp 104), type := 24, pos := "l09_commit.go:114", after := #[{ on := 0, ground := Go.Ground.data }, { on := 0, ground := Go.Ground.phase }, { on := 1, ground := Go.Ground.textOnly Go.Departure.lateStores }, { on := 2, ground := Go.Ground.textOnly Go.Departure.lateStores }], guard := Option.none }) (v := ?_) rfl (by kernel_rfl) (by kernel_rfl) (by kernel_rfl) (fun _ _ _ h => h) (Or.inl ⟨by rfl, ?_⟩) hHeld ?_
          rotate_left
          · intro w hSw
            try dsimp only at hSw
            go_simp
            try (with_reducible rfl)
          simp only [Act.put, List.setIfInBounds_toArray, List.set_cons_zero, List.set_cons_succ]
          refine wpAnyH_ready (rs := [4]) (by kernel_rfl) (by decide) ?_
          refine AllReadyH.cons (o := { dst := Option.none, op := Go.Op.store 26 (Go.Operand.tmp 3) (Go.Operand.tmp 105), type := 0, pos := "l09_commit.go:114", after := #[{ on := 1, ground := Go.Ground.data }, { on := 3, ground := Go.Ground.chain }, { on := 0, ground := Go.Ground.phase }, { on := 1, ground := Go.Ground.phase }, { on := 2, ground := Go.Ground.textOnly Go.Departure.lateStores }, { on := 3, ground := Go.Ground.phase }], guard := Option.none }) rfl (fun K hK => ?_) AllReadyH.nil
          have n1 : b6 ≠ w.heap.size := by omega
          have n2 : b9 ≠ w.heap.size := by omega
          have n3 : w.heap.size + 1 ≠ w.heap.size := by omega
          have HF6 : Hid (Blk ((((((wd.setCell ⟨w.heap.size, 0, none⟩ (.int .i64 yh)).setCell ⟨w.heap.size, 1, none⟩ (.int .i64 yt)).setCell ⟨w.heap.size, 2, none⟩ (.string ya)).setCell ⟨w.heap.size, 3, none⟩ (.string yw)).setCell ⟨w.heap.size, 4, none⟩ (.string yn)).setCell ⟨w.heap.size, 5, none⟩ (.string yd)) b6 [.int .i64 yh, .int .i64 yt, .string ya, .string yw, .string yn, .string yd] 26) := ((((((HE6d.out.other 0 (.int .i64 yh) n1).other 1 (.int .i64 yt) n1).other 2 (.string ya) n1).other 3 (.string yw) n1).other 4 (.string yn) n1).other 5 (.string yd) n1)
          have HF9 : Hid (Blk ((((((wd.setCell ⟨w.heap.size, 0, none⟩ (.int .i64 yh)).setCell ⟨w.heap.size, 1, none⟩ (.int .i64 yt)).setCell ⟨w.heap.size, 2, none⟩ (.string ya)).setCell ⟨w.heap.size, 3, none⟩ (.string yw)).setCell ⟨w.heap.size, 4, none⟩ (.string yn)).setCell ⟨w.heap.size, 5, none⟩ (.string yd)) b9 [.int .i64 xh, .int .i64 xr, .string xi, .slice xq xl.length xc] 29) := ((((((HE9d.out.other 0 (.int .i64 yh) n2).other 1 (.int .i64 yt) n2).other 2 (.string ya) n2).other 3 (.string yw) n2).other 4 (.string yn) n2).other 5 (.string yd) n2)
          have HR6 : Hid (Blk ((((((wd.setCell ⟨w.heap.size, 0, none⟩ (.int .i64 yh)).setCell ⟨w.heap.size, 1, none⟩ (.int .i64 yt)).setCell ⟨w.heap.size, 2, none⟩ (.string ya)).setCell ⟨w.heap.size, 3, none⟩ (.string yw)).setCell ⟨w.heap.size, 4, none⟩ (.string yn)).setCell ⟨w.heap.size, 5, none⟩ (.string yd)) w.heap.size [.int .i64 yh, .int .i64 yt, .string ya, .string yw, .string yn, .string yd] 26) := ((((((HQ6d.out.set 0 (.int .i64 yh)).set 1 (.int .i64 yt)).set 2 (.string ya)).set 3 (.string yw)).set 4 (.string yn)).set 5 (.string yd))
          have HQ4a : Hid (Blk ((((((wd.setCell ⟨w.heap.size, 0, none⟩ (.int .i64 yh)).setCell ⟨w.heap.size, 1, none⟩ (.int .i64 yt)).setCell ⟨w.heap.size, 2, none⟩ (.string ya)).setCell ⟨w.heap.size, 3, none⟩ (.string yw)).setCell ⟨w.heap.size, 4, none⟩ (.string yn)).setCell ⟨w.heap.size, 5, none⟩ (.string yd)) (w.heap.size + 1) [.int .i64 0, .int .i64 0, .string ⟨#[]⟩, .slice none 0 0] 29) := ((((((HQ4d.out.other 0 (.int .i64 yh) n3).other 1 (.int .i64 yt) n3).other 2 (.string ya) n3).other 3 (.string yw) n3).other 4 (.string yn) n3).other 5 (.string yd) n3)
          have p0 := HQ6d.out.cell 0 rfl
          have p1 := HQ6d.out.cell 1 rfl
          have p2 := HQ6d.out.cell 2 rfl
          have p3 := HQ6d.out.cell 3 rfl
          have p4 := HQ6d.out.cell 4 rfl
          have p5 := HQ6d.out.cell 5 rfl
          have pf := fun j => HQ6d.out.frozen j
          go_simp
          refine hK.out _ _ (⟨⟨(HF6.out).cell 0 rfl, (HF6.out).cell 1 rfl, (HF6.out).cell 2 rfl, (HF6.out).cell 3 rfl, (HF6.out).cell 4 rfl, (HF6.out).cell 5 rfl⟩, (HF9.out).cell 0 rfl, (HF9.out).cell 1 rfl, (HF9.out).cell 2 rfl, (HF9.out).cell 3 rfl⟩) (fun hHeld => ?_)
          clear hK K
          try simp only [Act.put, List.setIfInBounds_toArray, List.set_cons_zero, List.set_cons_succ]
          refine wpAnyH_ready (rs := [5]) (by kernel_rfl) (by decide) ?_
          refine AllReadyH.cons (o := { dst := Option.none, op := Go.Op.store 29 (Go.Operand.tmp 4) (Go.Operand.tmp 106), type := 0, pos := "l09_commit.go:114", after := #[{ on := 2, ground := Go.Ground.data }, { on := 4, ground := Go.Ground.chain }, { on := 0, ground := Go.Ground.phase }, { on := 1, ground := Go.Ground.phase }, { on := 2, ground := Go.Ground.phase }, { on := 3, ground := Go.Ground.phase }, { on := 4, ground := Go.Ground.phase }], guard := Option.none }) rfl (fun K hK => ?_) AllReadyH.nil
          clear p0 p1 p2 p3 p4 p5 pf
          have m1 : b6 ≠ w.heap.size + 1 := by omega
          have m2 : b9 ≠ w.heap.size + 1 := by omega
          have m3 : w.heap.size ≠ w.heap.size + 1 := by omega
          have HG6 : Hid (Blk ((((((((((wd.setCell ⟨w.heap.size, 0, none⟩ (.int .i64 yh)).setCell ⟨w.heap.size, 1, none⟩ (.int .i64 yt)).setCell ⟨w.heap.size, 2, none⟩ (.string ya)).setCell ⟨w.heap.size, 3, none⟩ (.string yw)).setCell ⟨w.heap.size, 4, none⟩ (.string yn)).setCell ⟨w.heap.size, 5, none⟩ (.string yd)).setCell ⟨w.heap.size + 1, 0, none⟩ (.int .i64 xh)).setCell ⟨w.heap.size + 1, 1, none⟩ (.int .i64 xr)).setCell ⟨w.heap.size + 1, 2, none⟩ (.string xi)).setCell ⟨w.heap.size + 1, 3, none⟩ (.slice xq xl.length xc)) b6 [.int .i64 yh, .int .i64 yt, .string ya, .string yw, .string yn, .string yd] 26) := ((((HF6.out.other 0 (.int .i64 xh) m1).other 1 (.int .i64 xr) m1).other 2 (.string xi) m1).other 3 (.slice xq xl.length xc) m1)
          have HG9 : Hid (Blk ((((((((((wd.setCell ⟨w.heap.size, 0, none⟩ (.int .i64 yh)).setCell ⟨w.heap.size, 1, none⟩ (.int .i64 yt)).setCell ⟨w.heap.size, 2, none⟩ (.string ya)).setCell ⟨w.heap.size, 3, none⟩ (.string yw)).setCell ⟨w.heap.size, 4, none⟩ (.string yn)).setCell ⟨w.heap.size, 5, none⟩ (.string yd)).setCell ⟨w.heap.size + 1, 0, none⟩ (.int .i64 xh)).setCell ⟨w.heap.size + 1, 1, none⟩ (.int .i64 xr)).setCell ⟨w.heap.size + 1, 2, none⟩ (.string xi)).setCell ⟨w.heap.size + 1, 3, none⟩ (.slice xq xl.length xc)) b9 [.int .i64 xh, .int .i64 xr, .string xi, .slice xq xl.length xc] 29) := ((((HF9.out.other 0 (.int .i64 xh) m2).other 1 (.int .i64 xr) m2).other 2 (.string xi) m2).other 3 (.slice xq xl.length xc) m2)
          have HT6 : Hid (Blk ((((((((((wd.setCell ⟨w.heap.size, 0, none⟩ (.int .i64 yh)).setCell ⟨w.heap.size, 1, none⟩ (.int .i64 yt)).setCell ⟨w.heap.size, 2, none⟩ (.string ya)).setCell ⟨w.heap.size, 3, none⟩ (.string yw)).setCell ⟨w.heap.size, 4, none⟩ (.string yn)).setCell ⟨w.heap.size, 5, none⟩ (.string yd)).setCell ⟨w.heap.size + 1, 0, none⟩ (.int .i64 xh)).setCell ⟨w.heap.size + 1, 1, none⟩ (.int .i64 xr)).setCell ⟨w.heap.size + 1, 2, none⟩ (.string xi)).setCell ⟨w.heap.size + 1, 3, none⟩ (.slice xq xl.length xc)) w.heap.size [.int .i64 yh, .int .i64 yt, .string ya, .string yw, .string yn, .string yd] 26) := ((((HR6.out.other 0 (.int .i64 xh) m3).other 1 (.int .i64 xr) m3).other 2 (.string xi) m3).other 3 (.slice xq xl.length xc) m3)
          have HT4 : Hid (Blk ((((((((((wd.setCell ⟨w.heap.size, 0, none⟩ (.int .i64 yh)).setCell ⟨w.heap.size, 1, none⟩ (.int .i64 yt)).setCell ⟨w.heap.size, 2, none⟩ (.string ya)).setCell ⟨w.heap.size, 3, none⟩ (.string yw)).setCell ⟨w.heap.size, 4, none⟩ (.string yn)).setCell ⟨w.heap.size, 5, none⟩ (.string yd)).setCell ⟨w.heap.size + 1, 0, none⟩ (.int .i64 xh)).setCell ⟨w.heap.size + 1, 1, none⟩ (.int .i64 xr)).setCell ⟨w.heap.size + 1, 2, none⟩ (.string xi)).setCell ⟨w.heap.size + 1, 3, none⟩ (.slice xq xl.length xc)) (w.heap.size + 1) [.int .i64 xh, .int .i64 xr, .string xi, .slice xq xl.length xc] 29) := ((((HQ4a.out.set 0 (.int .i64 xh)).set 1 (.int .i64 xr)).set 2 (.string xi)).set 3 (.slice xq xl.length xc))
          have p0 := HQ4a.out.cell 0 rfl
          have p1 := HQ4a.out.cell 1 rfl
          have p2 := HQ4a.out.cell 2 rfl
          have p3 := HQ4a.out.cell 3 rfl
          have pf := fun j => HQ4a.out.frozen j
          go_simp
          refine hK.out _ _ (⟨⟨(HG6.out).cell 0 rfl, (HG6.out).cell 1 rfl, (HG6.out).cell 2 rfl, (HG6.out).cell 3 rfl, (HG6.out).cell 4 rfl, (HG6.out).cell 5 rfl⟩, (HG9.out).cell 0 rfl, (HG9.out).cell 1 rfl, (HG9.out).cell 2 rfl, (HG9.out).cell 3 rfl⟩) (fun hHeld => ?_)
          clear hK K
          try simp only [Act.put, List.setIfInBounds_toArray, List.set_cons_zero, List.set_cons_succ]
          refine wpAnyH_done (by kernel_rfl) ?_ _
          clear p0 p1 p2 p3 pf
          have l1 : w.heap.size < w0.heap.size := by omega
          have l2 : w.heap.size + 1 < w0.heap.size := by omega
          have HBf : Hid (Below w.heap.size wd ((((((((((wd.setCell ⟨w.heap.size, 0, none⟩ (.int .i64 yh)).setCell ⟨w.heap.size, 1, none⟩ (.int .i64 yt)).setCell ⟨w.heap.size, 2, none⟩ (.string ya)).setCell ⟨w.heap.size, 3, none⟩ (.string yw)).setCell ⟨w.heap.size, 4, none⟩ (.string yn)).setCell ⟨w.heap.size, 5, none⟩ (.string yd)).setCell ⟨w.heap.size + 1, 0, none⟩ (.int .i64 xh)).setCell ⟨w.heap.size + 1, 1, none⟩ (.int .i64 xr)).setCell ⟨w.heap.size + 1, 2, none⟩ (.string xi)).setCell ⟨w.heap.size + 1, 3, none⟩ (.slice xq xl.length xc))) := (((((((((((Below.refl w.heap.size wd).setCell (p := ⟨w.heap.size, 0, none⟩) (Nat.le_refl _) (.int .i64 yh)).setCell (p := ⟨w.heap.size, 1, none⟩) (Nat.le_refl _) (.int .i64 yt)).setCell (p := ⟨w.heap.size, 2, none⟩) (Nat.le_refl _) (.string ya)).setCell (p := ⟨w.heap.size, 3, none⟩) (Nat.le_refl _) (.string yw)).setCell (p := ⟨w.heap.size, 4, none⟩) (Nat.le_refl _) (.string yn)).setCell (p := ⟨w.heap.size, 5, none⟩) (Nat.le_refl _) (.string yd)).setCell (p := ⟨w.heap.size + 1, 0, none⟩) (Nat.le_succ _) (.int .i64 xh)).setCell (p := ⟨w.heap.size + 1, 1, none⟩) (Nat.le_succ _) (.int .i64 xr)).setCell (p := ⟨w.heap.size + 1, 2, none⟩) (Nat.le_succ _) (.string xi)).setCell (p := ⟨w.heap.size + 1, 3, none⟩) (Nat.le_succ _) (.slice xq xl.length xc))
          have HAf : Hid (Abv w0.heap.size wd ((((((((((wd.setCell ⟨w.heap.size, 0, none⟩ (.int .i64 yh)).setCell ⟨w.heap.size, 1, none⟩ (.int .i64 yt)).setCell ⟨w.heap.size, 2, none⟩ (.string ya)).setCell ⟨w.heap.size, 3, none⟩ (.string yw)).setCell ⟨w.heap.size, 4, none⟩ (.string yn)).setCell ⟨w.heap.size, 5, none⟩ (.string yd)).setCell ⟨w.heap.size + 1, 0, none⟩ (.int .i64 xh)).setCell ⟨w.heap.size + 1, 1, none⟩ (.int .i64 xr)).setCell ⟨w.heap.size + 1, 2, none⟩ (.string xi)).setCell ⟨w.heap.size + 1, 3, none⟩ (.slice xq xl.length xc))) := (((((((((((Abv.refl _ wd).set l1 0 (.int .i64 yh)).set l1 1 (.int .i64 yt)).set l1 2 (.string ya)).set l1 3 (.string yw)).set l1 4 (.string yn)).set l1 5 (.string yd)).set l2 0 (.int .i64 xh)).set l2 1 (.int .i64 xr)).set l2 2 (.string xi)).set l2 3 (.slice xq xl.length xc))
          have HVf : Hid (VO ((((((((((wd.setCell ⟨w.heap.size, 0, none⟩ (.int .i64 yh)).setCell ⟨w.heap.size, 1, none⟩ (.int .i64 yt)).setCell ⟨w.heap.size, 2, none⟩ (.string ya)).setCell ⟨w.heap.size, 3, none⟩ (.string yw)).setCell ⟨w.heap.size, 4, none⟩ (.string yn)).setCell ⟨w.heap.size, 5, none⟩ (.string yd)).setCell ⟨w.heap.size + 1, 0, none⟩ (.int .i64 xh)).setCell ⟨w.heap.size + 1, 1, none⟩ (.int .i64 xr)).setCell ⟨w.heap.size + 1, 2, none⟩ (.string xi)).setCell ⟨w.heap.size + 1, 3, none⟩ (.slice xq xl.length xc)) ea m ∧ m.length ≤ 8 ∧ ∀ b' o, ea = some ⟨b', o, none⟩ → w.heap.size ≤ b') := ⟨HVd.out.1.abv HAf.out HVd.out.2.2, HVd.out.2.1, fun b o e => by have := HVd.out.2.2 b o e; omega⟩
          have HSf : Hid (SO ((((((((((wd.setCell ⟨w.heap.size, 0, none⟩ (.int .i64 yh)).setCell ⟨w.heap.size, 1, none⟩ (.int .i64 yt)).setCell ⟨w.heap.size, 2, none⟩ (.string ya)).setCell ⟨w.heap.size, 3, none⟩ (.string yw)).setCell ⟨w.heap.size, 4, none⟩ (.string yn)).setCell ⟨w.heap.size, 5, none⟩ (.string yd)).setCell ⟨w.heap.size + 1, 0, none⟩ (.int .i64 xh)).setCell ⟨w.heap.size + 1, 1, none⟩ (.int .i64 xr)).setCell ⟨w.heap.size + 1, 2, none⟩ (.string xi)).setCell ⟨w.heap.size + 1, 3, none⟩ (.slice xq xl.length xc)) xq xl ∧ ∀ b' o, xq = some ⟨b', o, none⟩ → w.heap.size ≤ b') := ⟨HSd.out.1.abv HAf.out HSd.out.2, fun b o e => by have := HSd.out.2 b o e; omega⟩
          have HDf : Hid (DS ((((((((((wd.setCell ⟨w.heap.size, 0, none⟩ (.int .i64 yh)).setCell ⟨w.heap.size, 1, none⟩ (.int .i64 yt)).setCell ⟨w.heap.size, 2, none⟩ (.string ya)).setCell ⟨w.heap.size, 3, none⟩ (.string yw)).setCell ⟨w.heap.size, 4, none⟩ (.string yn)).setCell ⟨w.heap.size, 5, none⟩ (.string yd)).setCell ⟨w.heap.size + 1, 0, none⟩ (.int .i64 xh)).setCell ⟨w.heap.size + 1, 1, none⟩ (.int .i64 xr)).setCell ⟨w.heap.size + 1, 2, none⟩ (.string xi)).setCell ⟨w.heap.size + 1, 3, none⟩ (.slice xq xl.length xc)) g B) := HDd.out.below (HBf.out.mono hB)
          have HGf : Hid (w.grownBy ((((((((((wd.setCell ⟨w.heap.size, 0, none⟩ (.int .i64 yh)).setCell ⟨w.heap.size, 1, none⟩ (.int .i64 yt)).setCell ⟨w.heap.size, 2, none⟩ (.string ya)).setCell ⟨w.heap.size, 3, none⟩ (.string yw)).setCell ⟨w.heap.size, 4, none⟩ (.string yn)).setCell ⟨w.heap.size, 5, none⟩ (.string yd)).setCell ⟨w.heap.size + 1, 0, none⟩ (.int .i64 xh)).setCell ⟨w.heap.size + 1, 1, none⟩ (.int .i64 xr)).setCell ⟨w.heap.size + 1, 2, none⟩ (.string xi)).setCell ⟨w.heap.size + 1, 3, none⟩ (.slice xq xl.length xc)) (some g)) := gr_below HGd.out HBf.out
          go_wp2
          have y0 := HT6.out.cell 0 rfl
          have y1 := HT6.out.cell 1 rfl
          have y2 := HT6.out.cell 2 rfl
          have y3 := HT6.out.cell 3 rfl
          have y4 := HT6.out.cell 4 rfl
          have y5 := HT6.out.cell 5 rfl
          have z0 := HT4.out.cell 0 rfl
          have z1 := HT4.out.cell 1 rfl
          have z2 := HT4.out.cell 2 rfl
          have z3 := HT4.out.cell 3 rfl
          refine bodyPost_ret (v := .tuple #[.slice ea m.length ec, .agg #[.int .i64 yh, .int .i64 yt, .string ya, .string yw, .string yn, .string yd], .agg #[.int .i64 xh, .int .i64 xr, .string xi, .slice xq xl.length xc]]) ?_ rfl ⟨ea, ec, m, ⟨yh, yt, ya, yw, yn, yd⟩, ⟨xh, xr, xi, xl⟩, xq, xc, rfl, HVf, HYf, HXd, HSf, HDf, HGf⟩
          clear HVf HSf HDf HGf HBf HAf HT6 HT4 HG6 HG9 HR6 HQ4a HF6 HF9
          generalize ((((((((((wd.setCell ⟨w.heap.size, 0, none⟩ (.int .i64 yh)).setCell ⟨w.heap.size, 1, none⟩ (.int .i64 yt)).setCell ⟨w.heap.size, 2, none⟩ (.string ya)).setCell ⟨w.heap.size, 3, none⟩ (.string yw)).setCell ⟨w.heap.size, 4, none⟩ (.string yn)).setCell ⟨w.heap.size, 5, none⟩ (.string yd)).setCell ⟨w.heap.size + 1, 0, none⟩ (.int .i64 xh)).setCell ⟨w.heap.size + 1, 1, none⟩ (.int .i64 xr)).setCell ⟨w.heap.size + 1, 2, none⟩ (.string xi)).setCell ⟨w.heap.size + 1, 3, none⟩ (.slice xq xl.length xc)) = W at *
          simp [results, Tryz.results23, go_sem, y0, y1, y2, y3, y4, y5, z0, z1, z2, z3]
end Go.Proofs.YtbpmjejmeaifbaaGreatDoor
