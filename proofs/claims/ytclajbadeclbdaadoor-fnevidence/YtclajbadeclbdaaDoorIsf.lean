/- What impl.Sha and impl.Short answer: SHA-256 in plain numbers, and its first eight bytes; old memory stays. Conditions: texts of at most 1099511627776 bytes, the table holds what the program's text lays. -/
import Derived.Test.YtclajbadeclbdaaDoorIse
namespace Go.Proofs.YtclajbadeclbdaaDoor
open Go.RowKit
open Num
set_option linter.unusedVariables false
theorem impl_all8 (v : V8) (s : ByteArray) (q : Nat) (w : World) (hs : s.size = 64 * q) (hq : q ≤ 17179869188) (hv : v.lt) (hT : Tab w) :
    Calls Tryd.prog 110 #[.agg #[.int .u32 (v.a : Int), .int .u32 (v.b : Int), .int .u32 (v.c : Int), .int .u32 (v.d : Int), .int .u32 (v.e : Int), .int .u32 (v.f : Int), .int .u32 (v.g : Int), .int .u32 (v.h : Int)], .string s] w fun e w' =>
      ∃ B : V8, Hid (B = blkn v s.data.toList q) ∧ e = .returned (.agg #[.int .u32 (B.a : Int), .int .u32 (B.b : Int), .int .u32 (B.c : Int), .int .u32 (B.d : Int), .int .u32 (B.e : Int), .int .u32 (B.f : Int), .int .u32 (B.g : Int), .int .u32 (B.h : Int)]) ∧ Below w.heap.size w w' :=
  (impl_all v s q w hs hq hv hT).mono fun e w' ⟨he, hb⟩ => ⟨_, rfl, he, hb⟩
/-- The words' place, and old memory. -/
def Fac3 (w W : World) (v : V8) : Prop := Au W w.heap.size 136 (v.l.map uv) ∧ Below w.heap.size w W
theorem fac3_below {w W W' : World} {v : V8} (F : Fac3 w W v) (hb : Below W.heap.size W W') : Fac3 w W' v :=
  ⟨(hb.block _ F.1.lt).trans F.1, F.2.trans (hb.mono F.2.size)⟩
theorem fac3_put {w W : World} {v B : V8} (F : Fac3 w W v) : Fac3 w (put8 W w.heap.size B) B := by
  rw [put8_eq]
  exact ⟨F.1.store ((length_vl _).trans (length_vl _).symm), below_setCells (Nat.le_refl _) _ _ _ F.2⟩
theorem cells4 (w : World) (y : Nat) (hy : y < 4294967296) : ∀ j v, ((outb y).map u8v)[j]? = some v → (w.alloc (.cells #[.int .u8 ((y : Int) / 16777216), .int .u8 ((y : Int) / 65536 % 256), .int .u8 ((y : Int) / 256 % 256), .int .u8 ((y : Int) % 256)] 5)).cell? ((⟨w.heap.size, 0, none⟩ : Addr).add j) = some v := by
  have e0 : (y : Int) / 16777216 = ((UInt8.ofNat (y / 16777216)).toNat : Int) := by rw [of_small _ (by omega)]; omega
  have e1 : (y : Int) / 65536 % 256 = ((UInt8.ofNat (y / 65536 % 256)).toNat : Int) := by rw [of_small _ (by omega)]; omega
  have e2 : (y : Int) / 256 % 256 = ((UInt8.ofNat (y / 256 % 256)).toNat : Int) := by rw [of_small _ (by omega)]; omega
  have e3 : (y : Int) % 256 = ((UInt8.ofNat (y % 256)).toNat : Int) := by rw [of_small _ (by omega)]; omega
  rw [e0, e1, e2, e3]
  exact four_cell w _ _ _ _
set_option maxHeartbeats 3200000 in
set_option maxRecDepth 100000 in
theorem impl_sha (s : ByteArray) (w : World) (hs : s.size ≤ 1099511627776) (hT : Tab w) :
    Calls Tryd.prog 107 #[.string s] w fun e w' => e = .returned (.string ⟨(shal s.data.toList).toArray⟩) ∧ Below w.heap.size w w' := by
  obtain ⟨i0, hi, hz0, hz1, hz2⟩ := info5f
  obtain ⟨l, hl⟩ : ∃ l, l = s.size % 64 := ⟨_, rfl⟩
  obtain ⟨q, hq⟩ : ∃ q, q = s.size / 64 := ⟨_, rfl⟩
  obtain ⟨p, hp⟩ : ∃ p, p = 64 * q := ⟨_, rfl⟩
  have hlm : (s.size : Int).tmod 64 = (l : Int) := by rw [Int.tmod_eq_emod_of_nonneg (by omega)]; omega
  have hpe : (s.size : Int) - (l : Int) = (p : Int) := by omega
  have hps : (p : Int) ≤ (s.size : Int) := by omega
  have hqb : q ≤ 17179869188 := by omega
  have HQ : Hid (q = s.size / 64) := hq
  have HP : Hid (p = 64 * q) := hp
  have HT : Hid (Tab w) := hT
  have HXS : Hid ((s.extract 0 p).size = 64 * q) := by show _ = _; rw [ByteArray.size_extract]; omega
  clear hl hq hp hT
  go_enter Tryd.func107, Tryd.ntmps107
  go_wp2
  obtain ⟨v, HV⟩ : ∃ v : V8, Hid (v = h0) := ⟨_, rfl⟩
  have HF : Hid (Fac3 w (w.alloc (.cells #[.int .u32 1779033703, .int .u32 3144134277, .int .u32 1013904242, .int .u32 2773480762, .int .u32 1359893119, .int .u32 2600822924, .int .u32 528734635, .int .u32 1541459225] 136)) v) := by
    rw [HV.out]
    exact ⟨Au.new w 136 (h0.l.map uv), (Below.refl _ _).alloc (Nat.le_refl _) _⟩
  generalize w.alloc (.cells #[.int .u32 1779033703, .int .u32 3144134277, .int .u32 1013904242, .int .u32 2773480762, .int .u32 1359893119, .int .u32 2600822924, .int .u32 528734635, .int .u32 1541459225] 136) = W0 at *
  have HVL : Hid v.lt := by rw [HV.out]; exact h0_lt
  have HF' : Hid (Fac3 w W0.drew v) := ⟨HF.out.1, HF.out.2.drew⟩
  have HTD : Hid (Tab W0.drew) := HT.out.below HF'.out.2 HT.out.pos
  obtain ⟨c0, c1, c2, c3, c4, c5, c6, c7⟩ := HF.out.1.cells8
  go_region_with ((go_at_call 110; refine (impl_all8 v (s.extract 0 p) q _ HXS.out hqb HVL.out HTD.out).mono ?_; rintro e w2 ⟨B, HB, rfl, hb2⟩; have HF2 : Hid (Fac3 w w2 v) := fac3_below HF'.out hb2; obtain ⟨d0, d1, d2, d3, d4, d5, d6, d7⟩ := HF2.out.1.cells8; have ff : ∀ j, w2.frozen? ⟨w.heap.size, j, none⟩ = false := HF2.out.1.frozen))
  obtain ⟨W1, hW1⟩ : ∃ W1, W1 = put8 w2 w.heap.size B := ⟨_, rfl⟩
  have HG : Hid (Fac3 w W1 B) := by rw [hW1]; exact fac3_put HF2.out
  unfold put8 at hW1
  rw [← hW1]
  have HBL : Hid B.lt := by rw [HB.out]; exact blkn_lt HVL.out _ _
  clear hW1 ff d0 d1 d2 d3 d4 d5 d6 d7 HF2 hb2 c0 c1 c2 c3 c4 c5 c6 c7 HF HF' HTD
  obtain ⟨d0, d1, d2, d3, d4, d5, d6, d7⟩ := HG.out.1.cells8
  have HG' : Hid (Fac3 w W1.drew B) := ⟨HG.out.1, HG.out.2.drew⟩
  obtain ⟨E, hE⟩ : ∃ E : ByteArray, E = ⟨(endl s.data.toList).toArray⟩ := ⟨_, rfl⟩
  obtain ⟨r, hr⟩ : ∃ r, r = esz s.size / 64 := ⟨_, rfl⟩
  have HES : Hid (E.size = 64 * r) := by
    show _ = _
    rw [hE, hr]
    show (endl s.data.toList).toArray.size = _
    rw [List.size_toArray, length_endl, Array.length_toList]
    show esz s.size = _
    unfold esz; split <;> decide
  have hrb : r ≤ 17179869188 := by rw [hr]; unfold esz; split <;> decide
  have HEE : Hid (E = ⟨(endl s.data.toList).toArray⟩) := hE
  have HRE : Hid (r = esz s.size / 64) := hr
  clear hE hr
  go_wp2
  go_region_with (first | (go_at_call 111; refine (impl_end s _ hs).mono ?_; rw [← HEE.out]; rintro e w3 ⟨rfl, hb3⟩; have HG3 : Hid (Fac3 w w3 B) := fac3_below HG'.out hb3; have HT3 : Hid (Tab w3) := HT.out.below HG3.out.2 HT.out.pos; obtain ⟨e0, e1, e2, e3, e4, e5, e6, e7⟩ := HG3.out.1.cells8) | (go_at_call 110; refine (impl_all8 B E r _ HES.out hrb HBL.out (by first | exact HT3.out | assumption)).mono ?_; rintro e w4 ⟨C, HC, rfl, hb4⟩; have HG4 : Hid (Fac3 w w4 B) := fac3_below HG3.out hb4; obtain ⟨f0, f1, f2, f3, f4, f5, f6, f7⟩ := HG4.out.1.cells8; have ff : ∀ j, w4.frozen? ⟨w.heap.size, j, none⟩ = false := HG4.out.1.frozen))
  all_goals
    obtain ⟨W2, hW2⟩ : ∃ W2, W2 = put8 w4 w.heap.size C := ⟨_, rfl⟩
    have HK : Hid (Fac3 w W2 C) := by rw [hW2]; exact fac3_put HG4.out
    unfold put8 at hW2
    rw [← hW2]
    have HCL : Hid C.lt := by rw [HC.out]; exact blkn_lt HBL.out _ _
    have HCE : Hid (outl C.l = shal s.data.toList) := by
      show _ = _
      have hlen : s.data.toList.length = s.size := Array.length_toList
      have h1 : (s.extract 0 p).data.toList = s.data.toList.take (64 * (s.data.toList.length / 64)) := by
        have := sub_list s 0 p
        rw [Nat.zero_add, List.drop_zero] at this
        rw [this, HP.out, HQ.out, hlen]
      have h2 : E.data.toList = endl s.data.toList := by rw [HEE.out]
      have h3 : (s.data.toList.take (64 * (s.data.toList.length / 64))).length = 64 * q := by
        rw [List.length_take, hlen, HQ.out]; omega
      have h4 : (text s.data.toList).length / 64 = q + r := by
        have := length_text s.data.toList
        rw [text_end, List.length_append, h3, length_endl, hlen, HRE.out]
        unfold esz; split <;> omega
      unfold shal
      rw [h4, ← blkn_h0, text_end, blkn_add _ _ _ _ h3, HC.out, HB.out, HV.out, h1, h2]
    have hsz : w.heap.size ≤ W2.heap.size := HK.out.2.size
    clear hW2 ff f0 f1 f2 f3 f4 f5 f6 f7 HG4 hb4 e0 e1 e2 e3 e4 e5 e6 e7 d0 d1 d2 d3 d4 d5 d6 d7 HG HG' HG3 HT3 hb3 HB HC
    go_wp2_with (at_make; refine wpList_make_full _ rfl _ _ 22 rfl W2.heap.size 5 i0 (.int .u8 0) 1 Tryd.underlying22 hi hz0 hz1 _ _ _ _ 32 rfl rfl rfl rfl (by rw [hz2]; omega) (by unfold maxLen; omega) (Nat.le_refl _) ?_; intro w5 hown hgr; have HK5 : Hid (Fac3 w w5 C) := fac3_below HK.out (below_of_grown hgr); obtain ⟨g0, g1, g2, g3, g4, g5, g6, g7⟩ := HK5.out.1.cells8)
    have hrow := own_whole hown
    rw [made_zero] at hrow
    have HR : Hid (Au w5 W2.heap.size 5 ((List.replicate 32 (0 : UInt8)).map u8v)) := hrow
    have hb5 : Below w.heap.size w w5 := HK5.out.2
    clear hown hgr hrow g0 g1 g2 g3 g4 g5 g6 g7 HK5 HK
    obtain ⟨K, HKE⟩ : ∃ K : List Nat, Hid (K = C.l) := ⟨_, rfl⟩
    have HKL : Hid (K.length = 8) := by show _ = _; rw [HKE.out]; rfl
    have HKB : Hid (∀ x ∈ K, x < 4294967296) := by
      show ∀ x ∈ K, x < 4294967296
      rw [HKE.out]; exact lt_all HCL.out
    have HKA : Hid (#[Value.int .u32 (C.a : Int), .int .u32 (C.b : Int), .int .u32 (C.c : Int), .int .u32 (C.d : Int), .int .u32 (C.e : Int), .int .u32 (C.f : Int), .int .u32 (C.g : Int), .int .u32 (C.h : Int)] = (K.map uv).toArray) := by
      show _ = _
      rw [HKE.out]; rfl
    generalize W2.heap.size = go at *
    go_loopw [6, 27] (fun at_ i wr => ∃ n : Nat, n ≤ 8 ∧ i = .int .i64 n ∧ at_ = .int .i64 ((4 * n : Nat) : Int) ∧ Hid (Au wr go 5 ((outl (K.take n) ++ List.replicate (32 - 4 * n) 0).map u8v)) ∧ Below w.heap.size w wr) (fun _ i _ => 8 - (intOf i).toNat)
    case atStart => exact ⟨0, by omega, rfl, rfl, HR, hb5⟩
    case round =>
      clear HR hb5
      obtain ⟨n, hn, rfl, rfl, HR, hb⟩ := hrel
      by_cases hlt : n < 8
      · obtain ⟨y, hy, XY⟩ : ∃ y : Nat, y < 4294967296 ∧ Hid (K[n]? = some y) := by
          have hk : n < K.length := by rw [HKL.out]; exact hlt
          exact ⟨K[n], HKB.out _ (List.getElem_mem hk), List.getElem?_eq_getElem hk⟩
        have hix : ∀ W : World, (Instr.index 136 (.agg #[Value.int .u32 (C.a : Int), .int .u32 (C.b : Int), .int .u32 (C.c : Int), .int .u32 (C.d : Int), .int .u32 (C.e : Int), .int .u32 (C.f : Int), .int .u32 (C.g : Int), .int .u32 (C.h : Int)]) (.int .i64 (n : Int))).run Tryd.prog W = .ok (.int .u32 (y : Int)) W := fun W => by
          rw [HKA.out]
          exact run_index8 W _ n _ hlt (by rw [List.getElem?_toArray, List.getElem?_map, XY.out]; rfl)
        have bn : (n : Int) < 8 := by omega
        have HLN : Hid ((outl (K.take n)).length = 4 * n) := by
          show _ = _
          rw [length_outl, List.length_take, HKL.out]; omega
        go_wp2_with fail
        refine (impl_pbg go wr.heap.size (4 * n) 32 4 4 _ rfl (outl (K.take n) ++ List.replicate (32 - 4 * n) 0) (outb y) _ (HR.out.alloc _) (by rw [List.length_append, HLN.out, List.length_replicate]; omega) (cells4 wr y hy) rfl (by omega) (by omega) (by omega) w.heap.size hsz).mono ?_
        rintro e w6 ⟨rfl, hA, hB⟩
        have HSP : Hid (splice (outl (K.take n) ++ List.replicate (32 - 4 * n) 0) (4 * n) (outb y) = outl (K.take (n + 1)) ++ List.replicate (32 - 4 * (n + 1)) 0) := by
          show _ = _
          rw [splice_fill _ _ (4 * n) 32 HLN.out (by show 4 * n + 4 ≤ 32; omega), List.take_add_one, XY.out]
          show _ = outl (K.take n ++ [y]) ++ _
          rw [outl_snoc]; rfl
        have HR6 : Hid (Au w6 go 5 ((outl (K.take (n + 1)) ++ List.replicate (32 - 4 * (n + 1)) 0).map u8v)) := by
          rw [← HSP.out]; exact hA
        have hb6 := (hb.alloc hb.size _).trans hB
        clear hA hB HSP HR hb hix
        go_wp2
        go_roundw
        case rel => exact ⟨n + 1, by omega, by go_num, by go_num, HR6, hb6⟩
        case measure => simp [intOf]; omega
      · obtain rfl : n = 8 := by omega
        have HRE2 : Hid (Au wr go 5 ((shal s.data.toList ++ []).map u8v)) := by
          have h := HR.out
          rw [List.take_of_length_le (by rw [HKL.out]; exact Nat.le_refl _), HKE.out, HCE.out] at h
          exact h
        have hcv := run_str_row (P := Tryd.prog) wr 22 9 5 Tryd.underlying22 Tryd.underlying5 Tryd.underlying9 go 32 (shal s.data.toList) [] 5 (0, 0) HRE2.out
        rw [length_shal] at hcv
        go_wp2
        go_ret
        exact ⟨rfl, hb⟩
end Go.Proofs.YtclajbadeclbdaaDoor
