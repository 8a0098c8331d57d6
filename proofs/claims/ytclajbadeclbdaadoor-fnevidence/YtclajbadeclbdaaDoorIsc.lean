/- What impl.shaOver answers: the eight words behind a block; old memory stays. Conditions: a block of 64 bytes, words below 2 to the 32, the table holds what the program's text lays. -/
import Derived.Test.YtclajbadeclbdaaDoorRows
import Derived.Test.YtclajbadeclbdaaDoorIsb
import Derived.Lib.LaidTab
namespace Go.Proofs.YtclajbadeclbdaaDoor
open Go.RowKit
open Num
set_option linter.unusedVariables false
def trn (a b c : Int) (x : Nat) : Nat := rr a.toNat x ^^^ rr b.toNat x ^^^ rr c.toNat x
theorem impl_turnedi (x : Nat) (a b c : Int) (hx : x < 4294967296) (ha1 : 1 ≤ a) (ha2 : a ≤ 31) (hb1 : 1 ≤ b) (hb2 : b ≤ 31) (hc1 : 1 ≤ c) (hc2 : c ≤ 31) (w : World) :
    Calls Tryd.prog 114 #[.int .u32 (x : Int), .int .i64 a, .int .i64 b, .int .i64 c] w fun e w' => e = .returned (.int .u32 ((trn a b c x : Nat) : Int)) ∧ w' = w := by
  obtain ⟨a', rfl⟩ : ∃ m : Nat, a = (m : Int) := ⟨a.toNat, by omega⟩
  obtain ⟨b', rfl⟩ : ∃ m : Nat, b = (m : Int) := ⟨b.toNat, by omega⟩
  obtain ⟨c', rfl⟩ : ∃ m : Nat, c = (m : Int) := ⟨c.toNat, by omega⟩
  exact impl_turned x a' b' c' hx (by omega) (by omega) (by omega) (by omega) (by omega) (by omega) w
theorem gTab : Tryd.prog.globalNamed "loop.example/g00946/impl.shaOfRound" = some 0 := by kernel_rfl
def Tab (w : World) : Prop := ∀ i : Nat, i < 64 → w.cell? ⟨0, i, none⟩ = some (.int .u32 ((keys.getD i 0 : Nat) : Int))
theorem Tab.pos {w : World} (h : Tab w) : 0 < w.heap.size := World.block_lt_of_cell? w _ (h 0 (by decide))
theorem Tab.below {w w' : World} {B : Nat} (h : Tab w) (hb : Below B w w') (hB : 0 < B) : Tab w' := fun i hi => (hb.cell (p := ⟨0, i, none⟩) hB).trans (h i hi)
theorem zero33 : (∀ w, (zeroValue 136).run Tryd.prog w = .ok (.agg (List.replicate 8 (uv 0)).toArray) w) ∧ (Tryd.prog.info? 136).map (·.size) = some 8 := zero_of_info (by kernel_rfl)
theorem u32_notx (e : Nat) (he : e < 4294967296) : bits .xor .u32 4294967295 (e : Int) = ((4294967295 - e : Nat) : Int) := by
  show IntKind.u32.wrap ((BitVec.ofInt 32 4294967295 ^^^ BitVec.ofInt 32 (e : Int)).toNat : Int) = _
  have h1 : BitVec.ofInt 32 4294967295 = BitVec.allOnes 32 := by decide
  rw [h1, BitVec.allOnes_xor, BitVec.toNat_not, ofInt_u32 e he, IntKind.wrap_u32']
  omega
theorem chsu_eq (e f g : Nat) (he : e < 4294967296) (hf : f < 4294967296) (hg : g < 4294967296) : bits .xor .u32 (bits .and .u32 (e : Int) (f : Int)) (bits .and .u32 (bits .xor .u32 4294967295 (e : Int)) (g : Int)) = ((chs e f g : Nat) : Int) := by
  rw [u32_notx e he, u32_and_nat _ _ he hf, u32_and_nat _ _ (by omega) hg, u32_xor_nat _ _ (and32 hf) (and32 hg)]; rfl
theorem maju_eq (a b c : Nat) (ha : a < 4294967296) (hb : b < 4294967296) (hc : c < 4294967296) : bits .xor .u32 (bits .xor .u32 (bits .and .u32 (a : Int) (b : Int)) (bits .and .u32 (a : Int) (c : Int))) (bits .and .u32 (b : Int) (c : Int)) = ((maj a b c : Nat) : Int) := by
  rw [u32_and_nat _ _ ha hb, u32_and_nat _ _ ha hc, u32_and_nat _ _ hb hc, u32_xor_nat _ _ (and32 hb) (and32 hc), u32_xor_nat _ _ (xor32 (and32 hb) (and32 hc)) (and32 hc)]; rfl
/-- What a walk of a block holds: the words, the answer's place, the schedule. -/
def Fac (w W : World) (h : Nat) (V Y L : List Value) : Prop := Au W w.heap.size 136 V ∧ Au W (w.heap.size + 1) 136 Y ∧ Au W h 138 L ∧ Below w.heap.size w W ∧ w.heap.size + 2 ≤ h
theorem Fac.drewN {w W : World} {h : Nat} {V Y L : List Value} (F : Fac w W h V Y L) (q : Nat) : Fac w (W.drewN q) h V Y L := ⟨F.1, F.2.1, F.2.2.1, below_drewN F.2.2.2.1 q, F.2.2.2.2⟩
theorem fac_new {w w3 : World} {V Y L Z : List Value} (h0 : Au w3 w.heap.size 136 V) (h1 : Au w3 (w.heap.size + 1) 136 Y) (hb : Below w.heap.size w w3) (hs : w.heap.size + 2 ≤ w3.heap.size) (hl : Z.length = L.length) :
    Fac w ((w3.alloc (.cells Z.toArray 138)).setCells w3.heap.size 0 L) w3.heap.size V Y L := by
  have hW : Below w3.heap.size w3 ((w3.alloc (.cells Z.toArray 138)).setCells w3.heap.size 0 L) := below_setCells (Nat.le_refl _) _ _ _ ((Below.refl _ _).alloc (Nat.le_refl _) _)
  exact ⟨(hW.block _ (by omega)).trans h0, (hW.block _ (by omega)).trans h1, (Au.new w3 138 Z).store hl, hb.trans (hW.mono (by omega)), hs⟩
theorem run_index8 (W : World) (cs : Array Value) (k : Nat) (x : Value) (hk : k < 8) (h : cs[k]? = some x) : (Instr.index 136 (.agg cs) (.int .i64 (k : Int))).run Tryd.prog W = .ok x W := by
  have h1 : (0 : Int) ≤ (k : Int) ∧ (k : Int) < 8 := by omega
  simp [Instr.index, run_underlying Tryd.underlying136, asIntOf, h, h1, hk, go_sem]
theorem Fac.store {w W : World} {h : Nat} {V Y L : List Value} (F : Fac w W h V Y L) (n : Nat) (v : Value) : Fac w (W.setCell ⟨w.heap.size, n, none⟩ v) h (V.set n v) Y L :=
  ⟨F.1.set n v, F.2.1.setOther _ _ (by simp), F.2.2.1.setOther _ _ (by have := F.2.2.2.2; show h ≠ w.heap.size; omega), F.2.2.2.1.setCell (p := ⟨w.heap.size, n, none⟩) (Nat.le_refl _) _, F.2.2.2.2⟩
/-- The words behind n sums. -/
def mix (v V : List Nat) (n : Nat) : List Nat := (List.zipWith addw v V).take n ++ v.drop n
theorem mix_set {v V : List Nat} {n x y : Nat} (hx : v[n]? = some x) (hy : V[n]? = some y) : ((mix v V n).map uv).set n (uv (addw x y)) = (mix v V (n + 1)).map uv := by
  have hv : n < v.length := (List.getElem?_eq_some_iff.1 hx).1
  have hV : n < V.length := (List.getElem?_eq_some_iff.1 hy).1
  have hz : (List.zipWith addw v V)[n]? = some (addw x y) := zip_at hx hy
  have hl : ((List.zipWith addw v V).take n).length = n := by simp; omega
  have hd : v.drop n = x :: v.drop (n + 1) := by
    rw [List.drop_eq_getElem_cons hv]
    congr 1
    exact (List.getElem?_eq_some_iff.1 hx).2
  unfold mix
  rw [List.take_add_one, hz, hd, ← List.map_set, List.set_append_right _ _ (by omega), hl, Nat.sub_self]
  simp
theorem mix_at {v V : List Nat} {n x : Nat} (hx : v[n]? = some x) (hV : n < V.length) : ((mix v V n).map uv)[n]? = some (uv x) := by
  have hv : n < v.length := (List.getElem?_eq_some_iff.1 hx).1
  have hl : ((List.zipWith addw v V).take n).length = n := by simp; omega
  unfold mix
  rw [List.getElem?_map, List.getElem?_append_right (by omega), hl, Nat.sub_self, List.getElem?_drop, Nat.add_zero, hx]; rfl
set_option maxHeartbeats 1600000 in
set_option maxRecDepth 100000 in
theorem impl_block (v : V8) (s : ByteArray) (w : World) (hs : s.size = 64) (hv : v.lt) (hT : Tab w) :
    Calls Tryd.prog 112 #[.agg (v.l.map uv).toArray, .string s] w fun e w' => e = .returned (.agg ((blk v s.data.toList).l.map uv).toArray) ∧ Below w.heap.size w w' := by
  obtain ⟨Z, HZ⟩ : ∃ Z : List Value, Hid (Z = List.replicate 64 (uv 0)) := ⟨_, rfl⟩
  obtain ⟨Y, HY⟩ : ∃ Y : List Value, Hid (Y = List.replicate 8 (uv 0)) := ⟨_, rfl⟩
  obtain ⟨V, HV⟩ : ∃ V : List Value, Hid (V = v.l.map uv) := ⟨_, rfl⟩
  have hz := zero47.1
  have hy := zero33.1
  rw [← HZ.out] at hz
  rw [← HY.out] at hy
  rw [← HV.out]
  have HS : Hid (s.size = 64) := hs
  have HT : Hid (Tab w) := hT
  have HVL : Hid v.lt := hv
  clear hs hT hv
  go_enter Tryd.func112, Tryd.ntmps112
  go_wp2_with fail
  refine (impl_words s _ HS.out).mono ?_
  rintro e w3 ⟨rfl, hb3⟩
  rw [World.size_alloc, World.size_alloc] at hb3
  have hb2 : Below w.heap.size w ((w.alloc (.cells V.toArray 136)).alloc (.cells Y.toArray 136)) := ((Below.refl _ _).alloc (Nat.le_refl _) _).alloc (by simp) _
  have A0 : Au w3 w.heap.size 136 V := (hb3.block w.heap.size (by omega)).trans ((Au.new w 136 V).alloc _)
  have A1 : Au w3 (w.heap.size + 1) 136 Y := (hb3.block (w.heap.size + 1) (by omega)).trans (by
    have := Au.new (w.alloc (.cells V.toArray 136)) 136 Y
    rw [World.size_alloc] at this; exact this)
  have hb4 : Below w.heap.size w w3 := hb2.trans (hb3.mono (by omega))
  have hsz : w.heap.size + 2 ≤ w3.heap.size := by have := hb3.size; rw [World.size_alloc, World.size_alloc] at this; omega
  have H0 : Hid (Au w3 w.heap.size 136 V) := A0
  have H1 : Hid (Au w3 (w.heap.size + 1) 136 Y) := A1
  have HB : Hid (Below w.heap.size w w3) := hb4
  have HSZ : Hid (w.heap.size + 2 ≤ w3.heap.size) := hsz
  clear A0 A1 hb4 hb3 hb2 hsz
  obtain ⟨sc, hsc⟩ : ∃ sc, sc = sched (words s.data.toList 16) 48 := ⟨_, rfl⟩
  have HSC : Hid (sc = sched (words s.data.toList 16) 48) := hsc
  have HSL : Hid (sc.length = 64) := by show _ = _; rw [hsc, length_sched, length_words]
  have HSB : Hid (∀ x ∈ sc, x < 4294967296) := by
    show ∀ x ∈ sc, x < 4294967296
    rw [hsc]; exact pre_lt s.data.toList 64
  rw [← hsc]
  clear hsc
  obtain ⟨L, hL⟩ : ∃ L, L = sc.map uv := ⟨_, rfl⟩
  have HL : Hid (L = sc.map uv) := hL
  have HLL : Hid (L.length = 64) := by show _ = _; rw [hL, List.length_map, HSL.out]
  rw [← hL]
  clear hL
  have HI2 : Hid ((Tryd.prog.info? 138).map (·.size) = some L.toArray.size) := by
    show _ = _
    rw [List.size_toArray, HLL.out]; exact zero47.2
  have HZL : Hid (Z.length = 64) := by show _ = _; rw [HZ.out, List.length_replicate]
  have HTH : Hid ((w3.alloc (.cells Z.toArray 138)).there w3.heap.size 0 L.toArray.size) := (Au.new w3 138 Z).there _ (by rw [HZL.out, List.size_toArray, HLL.out]; exact Nat.le_refl _)
  have HO : Hid (∀ u ∈ L, u.oneCell' = true) := by
    show ∀ u ∈ L, u.oneCell' = true
    rw [HL.out]; exact uv_one _
  go_wp2_with (refine wpList_store_mid rfl 138 _ _ rfl w3.heap.size 0 L.toArray rfl rfl HTH.out HI2.out (all_oneCell_toArray HO.out) ?_)
  have HF : Hid (Fac w ((w3.alloc (.cells Z.toArray 138)).setCells w3.heap.size 0 L) w3.heap.size V Y L) := fac_new H0.out H1.out HB.out HSZ.out (by rw [HZL.out, HLL.out])
  have HTW : Hid (Tab ((w3.alloc (.cells Z.toArray 138)).setCells w3.heap.size 0 L)) := HT.out.below HF.out.2.2.2.1 HT.out.pos
  clear HTH HI2 H0 H1 HB HSZ
  generalize (w3.alloc (.cells Z.toArray 138)).setCells w3.heap.size 0 L = W at *
  generalize w3.heap.size = gw at *
  have c0 : W.cell? ⟨w.heap.size, 0, none⟩ = some (.int .u32 (v.a : Int)) := HF.out.1.cell (by rw [HV.out]; rfl)
  have c1 : W.cell? ⟨w.heap.size, 1, none⟩ = some (.int .u32 (v.b : Int)) := HF.out.1.cell (by rw [HV.out]; rfl)
  have c2 : W.cell? ⟨w.heap.size, 2, none⟩ = some (.int .u32 (v.c : Int)) := HF.out.1.cell (by rw [HV.out]; rfl)
  have c3 : W.cell? ⟨w.heap.size, 3, none⟩ = some (.int .u32 (v.d : Int)) := HF.out.1.cell (by rw [HV.out]; rfl)
  have c4 : W.cell? ⟨w.heap.size, 4, none⟩ = some (.int .u32 (v.e : Int)) := HF.out.1.cell (by rw [HV.out]; rfl)
  have c5 : W.cell? ⟨w.heap.size, 5, none⟩ = some (.int .u32 (v.f : Int)) := HF.out.1.cell (by rw [HV.out]; rfl)
  have c6 : W.cell? ⟨w.heap.size, 6, none⟩ = some (.int .u32 (v.g : Int)) := HF.out.1.cell (by rw [HV.out]; rfl)
  have c7 : W.cell? ⟨w.heap.size, 7, none⟩ = some (.int .u32 (v.h : Int)) := HF.out.1.cell (by rw [HV.out]; rfl)
  go_quiet (fail)
  go_wp2
  go_quiet (fail)
  go_wp2
  clear c0 c1 c2 c3 c4 c5 c6 c7
  go_loopw [6, 7, 8, 9, 10, 11, 12, 13, 39] (fun s6 s7 s8 s9 s10 s11 s12 s13 i wr => ∃ (n a b c d e f g z : Nat), n ≤ 64 ∧ i = .int .i64 n ∧ s6 = .int .u32 a ∧ s7 = .int .u32 b ∧ s8 = .int .u32 c ∧ s9 = .int .u32 d ∧ s10 = .int .u32 e ∧ s11 = .int .u32 f ∧ s12 = .int .u32 g ∧ s13 = .int .u32 z ∧ Hid (V8.lt ⟨a, b, c, d, e, f, g, z⟩) ∧ Hid (V8.mk a b c d e f g z = rnds v ((keys.zip sc).take n)) ∧ Hid (Fac w wr gw V Y L) ∧ Hid (Tab wr)) (fun _ _ _ _ _ _ _ _ i _ => 64 - (intOf i).toNat)
  case atStart => exact ⟨0, v.a, v.b, v.c, v.d, v.e, v.f, v.g, v.h, by omega, rfl, rfl, rfl, rfl, rfl, rfl, rfl, rfl, rfl, HVL, rfl, (HF.out.drewN _).drewN _, HTW⟩
  case round =>
    clear HF HTW W
    obtain ⟨n, a, b, c, d, e, f, g, z, hn, rfl, rfl, rfl, rfl, rfl, rfl, rfl, rfl, rfl, HLT, HG, HF, HTW⟩ := hrel
    by_cases hlt : n < 64
    · obtain ⟨ha, hb, hc, hd, he, hf, hg, hh⟩ := HLT.out
      obtain ⟨kk, hkk, ckk, XK⟩ : ∃ kk : Nat, kk < 4294967296 ∧ wr.cell? ⟨0, n, none⟩ = some (.int .u32 (kk : Int)) ∧ Hid (keys[n]? = some kk) := by
        have hk : n < keys.length := hlt
        refine ⟨keys.getD n 0, ?_, HTW.out n hlt, getD_at hk rfl⟩
        rw [List.getD_eq_getElem?_getD, List.getElem?_eq_getElem hk]
        exact keys_lt _ (List.getElem_mem hk)
      obtain ⟨ww, hww, cww, XW⟩ : ∃ ww : Nat, ww < 4294967296 ∧ wr.cell? ⟨gw, n, none⟩ = some (.int .u32 (ww : Int)) ∧ Hid (sc[n]? = some ww) := by
        have hk : n < sc.length := by rw [HSL.out]; exact hlt
        refine ⟨sc.getD n 0, ?_, HF.out.2.2.1.cell ?_, getD_at hk rfl⟩
        · rw [List.getD_eq_getElem?_getD, List.getElem?_eq_getElem hk]
          exact HSB.out _ (List.getElem_mem hk)
        · rw [HL.out, List.getElem?_map, getD_at hk rfl]; rfl
      have bn : (n : Int) < 64 := by omega
      have hs1 : IntKind.u32.signed = false := rfl
      have hm1 : IntKind.u32.max = 4294967295 := rfl
      obtain ⟨C, hC, XC⟩ : ∃ C : Nat, C < 4294967296 ∧ Hid (chs e f g = C) := ⟨_, chs_lt hf hg, rfl⟩
      obtain ⟨M, hM, XM⟩ : ∃ M : Nat, M < 4294967296 ∧ Hid (maj a b c = M) := ⟨_, maj_lt hb hc, rfl⟩
      have eC := chsu_eq e f g he hf hg
      have eM := maju_eq a b c ha hb hc
      rw [XC.out] at eC
      rw [XM.out] at eM
      obtain ⟨A, hA, XA⟩ : ∃ A : Nat, A < 4294967296 ∧ trn 6 11 25 e = A := ⟨_, sm1_lt e, rfl⟩
      obtain ⟨D, hD, XD⟩ : ∃ D : Nat, D < 4294967296 ∧ trn 2 13 22 a = D := ⟨_, sm0_lt a, rfl⟩
      go_wp2
      go_quiet ((go_at_call 114; refine Calls.quiet_of_same (impl_turnedi e _ _ _ he ?_ ?_ ?_ ?_ ?_ ?_ _) <;> decide))
      go_wp2_with fail
      refine (impl_turnedi a _ _ _ ha ?_ ?_ ?_ ?_ ?_ ?_ _).mono ?_
      iterate 6 decide
      rintro e' w' ⟨rfl, rfl⟩
      obtain ⟨z1, hz1⟩ : ∃ z1, z1 = (tt ⟨a, b, c, d, e, f, g, z⟩ kk ww + uu ⟨a, b, c, d, e, f, g, z⟩) % 4294967296 := ⟨_, rfl⟩
      obtain ⟨z2, hz2⟩ : ∃ z2, z2 = (d + tt ⟨a, b, c, d, e, f, g, z⟩ kk ww) % 4294967296 := ⟨_, rfl⟩
      have ht : tt ⟨a, b, c, d, e, f, g, z⟩ kk ww = z + A + C + kk + ww := by
        show z + sm1 e + chs e f g + kk + ww = _
        rw [XC.out, ← XA]; rfl
      have hu : uu ⟨a, b, c, d, e, f, g, z⟩ = D + M := by
        show sm0 a + maj a b c = _
        rw [XM.out, ← XD]; rfl
      have HN : Hid (V8.mk z1 a b c z2 e f g = rnds v ((keys.zip sc).take (n + 1))) := by
        show _ = _
        rw [zip_snoc keys sc n kk ww XK.out XW.out, rnds_snoc, ← HG.out, hz1, hz2]; rfl
      have HLN : Hid (V8.lt ⟨z1, a, b, c, z2, e, f, g⟩) := by
        show V8.lt _
        rw [hz1, hz2]
        exact ⟨Nat.mod_lt _ (by decide), ha, hb, hc, Nat.mod_lt _ (by decide), he, hf, hg⟩
      have HE1 : Hid ((((z : Int) + (A : Int) + (C : Int) + (kk : Int) + (ww : Int)) % 4294967296 + ((D : Int) + (M : Int)) % 4294967296) % 4294967296 = (z1 : Int)) := by
        show _ = _
        rw [hz1, ht, hu]; omega
      have HE2 : Hid (((d : Int) + ((z : Int) + (A : Int) + (C : Int) + (kk : Int) + (ww : Int)) % 4294967296) % 4294967296 = (z2 : Int)) := by
        show _ = _
        rw [hz2, ht]; omega
      clear hz1 hz2 ht hu
      go_wp2
      go_roundw
      case rel =>
        rw [HE1.out, HE2.out]
        exact ⟨n + 1, z1, a, b, c, z2, e, f, g, by omega, by go_num, rfl, rfl, rfl, rfl, rfl, rfl, rfl, rfl, HLN, HN, HF.out.drewN _, HTW⟩
      case measure => simp [intOf]; omega
    · obtain rfl : n = 64 := by omega
      clear hn hlt
      have HGF : Hid (V8.mk a b c d e f g z = rnds v (keys.zip (sched (words s.data.toList 16) 48))) := by
        have h1 := HG.out
        rw [List.take_of_length_le (by rw [List.length_zip, HSL.out]; exact Nat.min_le_right _ _), HSC.out] at h1
        exact h1
      have HBL : Hid ((blk v s.data.toList).l = List.zipWith addw v.l (V8.mk a b c d e f g z).l) := blk_l v _ _ HGF.out
      obtain ⟨K, HK⟩ : ∃ K : List Nat, Hid (K = [a, b, c, d, e, f, g, z]) := ⟨_, rfl⟩
      have HKL : Hid (K.length = 8) := by show _ = _; rw [HK.out]; rfl
      have HVV : Hid (v.l.length = 8) := rfl
      have HKB : Hid (∀ x ∈ K, x < 4294967296) := by
        show ∀ x ∈ K, x < 4294967296
        rw [HK.out]; exact lt_all HLT.out
      have HVB : Hid (∀ x ∈ v.l, x < 4294967296) := lt_all HVL.out
      have HB : Hid ((blk v s.data.toList).l = List.zipWith addw v.l K) := by
        show _ = _
        rw [HBL.out, HK.out]; rfl
      have HKA : Hid (#[Value.int .u32 (a : Int), .int .u32 (b : Int), .int .u32 (c : Int), .int .u32 (d : Int), .int .u32 (e : Int), .int .u32 (f : Int), .int .u32 (g : Int), .int .u32 (z : Int)] = (K.map uv).toArray) := by
        show _ = _
        rw [HK.out]; rfl
      have HY8 : Hid (Y.length = 8) := by show _ = _; rw [HY.out]; rfl
      clear HGF HBL HG hy hz
      go_wp2
      go_loopw [101] (fun i wr => ∃ n : Nat, n ≤ 8 ∧ i = .int .i64 n ∧ Hid (Fac w wr gw ((mix v.l K n).map uv) Y L)) (fun i _ => 8 - (intOf i).toNat)
      case atStart =>
        refine ⟨0, by omega, rfl, ?_⟩
        have := HF.out
        rw [HV.out] at this
        exact this
      case round =>
        clear HF HTW
        obtain ⟨n, hn, rfl, HF⟩ := hrel
        by_cases hlt : n < 8
        · obtain ⟨x, hx, XX⟩ : ∃ x : Nat, x < 4294967296 ∧ Hid (v.l[n]? = some x) := by
            have hk : n < v.l.length := by rw [HVV.out]; exact hlt
            exact ⟨v.l[n], HVB.out _ (List.getElem_mem hk), List.getElem?_eq_getElem hk⟩
          obtain ⟨y, hy, XY⟩ : ∃ y : Nat, y < 4294967296 ∧ Hid (K[n]? = some y) := by
            have hk : n < K.length := by rw [HKL.out]; exact hlt
            exact ⟨K[n], HKB.out _ (List.getElem_mem hk), List.getElem?_eq_getElem hk⟩
          have hix : ∀ W : World, (Instr.index 136 (.agg #[Value.int .u32 (a : Int), .int .u32 (b : Int), .int .u32 (c : Int), .int .u32 (d : Int), .int .u32 (e : Int), .int .u32 (f : Int), .int .u32 (g : Int), .int .u32 (z : Int)]) (.int .i64 (n : Int))).run Tryd.prog W = .ok (.int .u32 (y : Int)) W := fun W => by
            rw [HKA.out]
            exact run_index8 W _ n _ hlt (by rw [List.getElem?_toArray, List.getElem?_map, XY.out]; rfl)
          have cx : wr.cell? ⟨w.heap.size, n, none⟩ = some (.int .u32 (x : Int)) := HF.out.1.cell (mix_at XX.out (by rw [HKL.out]; exact hlt))
          have cf : wr.frozen? ⟨w.heap.size, n, none⟩ = false := HF.out.1.frozen n
          have bn : (n : Int) < 8 := by omega
          have HST : Hid (Fac w (wr.setCell ⟨w.heap.size, n, none⟩ (.int .u32 (((x : Int) + (y : Int)) % 4294967296))) gw ((mix v.l K (n + 1)).map uv) Y L) := by
            have := HF.out.store n (uv (addw x y))
            rw [mix_set XX.out XY.out] at this
            rw [show ((x : Int) + (y : Int)) % 4294967296 = ((addw x y : Nat) : Int) from by unfold addw; omega]
            exact this
          go_wp2
          go_roundw
          case rel => exact ⟨n + 1, by omega, by go_num, HST⟩
          case measure => simp [intOf]; omega
        · obtain rfl : n = 8 := by omega
          have HMX : Hid (mix v.l K 8 = (blk v s.data.toList).l) := by
            show _ = _
            unfold mix
            rw [List.drop_eq_nil_of_le (by rw [HVV.out]; exact Nat.le_refl _), List.append_nil, List.take_of_length_le (by rw [List.length_zipWith, HVV.out, HKL.out]; decide), HB.out]
          rw [HMX.out] at HF
          obtain ⟨R, hR⟩ : ∃ R, R = (blk v s.data.toList).l.map uv := ⟨_, rfl⟩
          have HRE : Hid (R = (blk v s.data.toList).l.map uv) := hR
          have HRL : Hid (R.length = 8) := by show _ = _; rw [hR]; rfl
          have HR1 : Hid (∀ u ∈ R, u.oneCell' = true) := by
            show ∀ u ∈ R, u.oneCell' = true
            rw [hR]; exact uv_one _
          rw [← hR] at HF
          clear hR
          obtain ⟨A0, A1, A2, hbw, _⟩ := HF.out
          have HA0 : Hid (Au wr w.heap.size 136 R) := A0
          have HA1 : Hid (Au wr (w.heap.size + 1) 136 Y) := A1
          have HI2 : Hid ((Tryd.prog.info? 136).map (·.size) = some R.toArray.size) := by
            show _ = _
            rw [List.size_toArray, HRL.out]; exact zero33.2
          have HI3 : Hid ((Tryd.prog.info? 136).map (·.size) = some R.length) := by
            show _ = _
            rw [HRL.out]; exact zero33.2
          have HTH : Hid (wr.there (w.heap.size + 1) 0 R.toArray.size) := A1.there _ (by rw [HY8.out, List.size_toArray, HRL.out]; exact Nat.le_refl _)
          have HBB : Hid (Below w.heap.size w (wr.setCells (w.heap.size + 1) 0 R)) := below_setCells (Nat.le_succ _) _ _ _ hbw
          have HAU : Hid (Au (wr.setCells (w.heap.size + 1) 0 R) (w.heap.size + 1) 136 R) := A1.store (by rw [HY8.out, HRL.out])
          clear A0 A1 A2 hbw
          go_wp2_with (first | (refine wpList_load_mid rfl 136 _ rfl w.heap.size 0 rfl R _ HA0.out.range Tryd.underlying136 rfl HI3.out ?_) | (refine wpList_store_mid rfl 136 _ _ rfl (w.heap.size + 1) 0 R.toArray rfl rfl HTH.out HI2.out (all_oneCell_toArray HR1.out) ?_))
          refine bodyPost_ret (v := .agg R.toArray) ?_ rfl ⟨by rw [HRE.out], HBB.out⟩
          exact results_cell_row rfl _ _ (w.heap.size + 1) 136 R.toArray (0, 0) _ rfl HAU.out Tryd.underlying136 rfl HI2.out
end Go.Proofs.YtclajbadeclbdaaDoor
