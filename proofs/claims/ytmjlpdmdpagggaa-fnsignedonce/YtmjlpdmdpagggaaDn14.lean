/- What laws.big, laws.at, spec.l1Size, spec.DrawSignAsk and spec.DrawMaySign answer of a code. Conditions: a code of at most 2 to the 20 bytes. -/
import Derived.Test.YtmjlpdmdpagggaaDm14
namespace Go.Proofs.Ytmjlpdmdpagggaa
open Go.RowKit
open Num
set_option linter.unusedVariables false
theorem code_below {w w' : World} {a : Option Addr} {L : List UInt8} (h : CodeAt w w.heap.size a L) (hb : Below w.heap.size w w') : CodeAt w' w'.heap.size a L := by
  intro j hj
  obtain ⟨b, off, ha, hne, hc⟩ := h j hj
  have hlt : b < w.heap.size := World.block_lt_of_cell? w _ hc
  exact ⟨b, off, ha, by have := hb.size; omega, by rw [hb.cell (p := ⟨b, off + j, none⟩) hlt]; exact hc⟩
set_option maxHeartbeats 400000 in
set_option maxRecDepth 100000 in
theorem big_any (a : Option Addr) (len cap : Nat) (w : World) (hm : len ≤ 9223372036854775807) :
    Calls Try.prog 11 #[.slice a len cap] w fun e w' => e = .returned (.bool (decide ((1048576 : Int) < (len : Int)))) ∧ w' = w := by
  go_enter Try.func11, Try.ntmps11
  go_wp2
  go_ret
  exact ⟨rfl, rfl⟩
/-- Byte i of a code, or one that follows from it. -/
def atV (L : List UInt8) (i : Nat) : Int := if h : i < L.length then (L[i].toNat : Int) else ((i : Int) * 37 + (L.length : Int) * 11) % 256
theorem atV_bound (L : List UInt8) (i : Nat) : 0 ≤ atV L i ∧ atV L i < 256 := by
  unfold atV
  split
  · have := L[i].toNat_lt; omega
  · omega
set_option maxHeartbeats 400000 in
set_option maxRecDepth 100000 in
theorem at_any (a : Option Addr) (L : List UInt8) (cap : Nat) (i : Nat) (w : World) (hl : CodeAt w w.heap.size a L) (hlen : L.length ≤ 1048576) (hi : i ≤ 1000) :
    Calls Try.prog 12 #[.slice a L.length cap, .int .i64 (i : Int)] w fun e w' => e = .returned (.int .i64 (atV L i)) ∧ w' = w := by
  by_cases h : i < L.length
  · obtain ⟨b, off, rfl, _, hc⟩ := hl i h
    have HV : Hid (atV L i = (L[i].toNat : Int)) := by show _ = _; unfold atV; rw [dif_pos h]
    obtain ⟨c, hcE⟩ : ∃ c, L[i] = c := ⟨_, rfl⟩
    rw [hcE] at hc HV
    have hb : (c.toNat : Int) < 256 := by have := c.toNat_lt; omega
    have hlt : (i : Int) < (L.length : Int) := by omega
    clear hl hcE h
    go_enter Try.func12, Try.ntmps12
    go_wp2
    go_ret
    exact ⟨by rw [HV.out]; rfl, rfl⟩
  · have HV : Hid (atV L i = ((i : Int) * 37 + (L.length : Int) * 11) % 256) := by show _ = _; unfold atV; rw [dif_neg h]
    have hlt : ¬ (i : Int) < (L.length : Int) := by omega
    have hm : ((i : Int) * 37 + (L.length : Int) * 11).tmod 256 = ((i : Int) * 37 + (L.length : Int) * 11) % 256 := Int.tmod_eq_emod_of_nonneg (by omega)
    clear hl h
    go_enter Try.func12, Try.ntmps12
    go_wp2
    go_ret
    exact ⟨by rw [HV.out]; rfl, rfl⟩
theorem ds_at {w : World} {a : Option Addr} {L : List UInt8} {cap : Nat} (hl : CodeAt w w.heap.size a L) (hlen : L.length ≤ 1048576) (h0 : Int) :
    DS (w.alloc (.cells #[.slice a L.length cap, .int .i64 0, .int .i64 h0] 98)) w.heap.size (w.heap.size + 1) := by
  refine ⟨a, L, cap, ⟨0, h0⟩, hlen, heap_alloc_new _ _, CodeAt.kept hl (grown_alloc (grown_refl _ _) _), by omega, fun j hj => ?_⟩
  obtain ⟨b, off, e, hne, hc⟩ := hl j hj
  have := World.block_lt_of_cell? w _ hc
  exact ⟨b, off, e, by simp at this; omega⟩
theorem i64_int (x : Int) (h0 : 0 ≤ x) (h1 : x < 9223372036854775808) : IntKind.i64.wrap x = x := by
  rw [IntKind.wrap_i64]; omega
set_option maxHeartbeats 400000 in
set_option maxRecDepth 100000 in
theorem size_any (a : Option Addr) (len cap : Nat) (w : World) (hlen : len ≤ 1048576) :
    Calls Try.prog 47 #[.slice a len cap, .int .i64 20] w fun e w' => ∃ x : Int, e = .returned (.int .i64 x) ∧ 0 < x ∧ x ≤ 20 ∧ Below w.heap.size w w' := by
  have hm : (len : Int).tdiv 20 = (len : Int) / 20 := Int.tdiv_eq_ediv_of_nonneg (by omega)
  have hw1 : IntKind.i64.wrap ((len : Int) / 20) = (len : Int) / 20 := i64_int _ (by omega) (by omega)
  have hw2 : IntKind.i64.wrap (2 + (len : Int) / 20) = 2 + (len : Int) / 20 := i64_int _ (by omega) (by omega)
  obtain ⟨q, hq⟩ : ∃ q : Int, (len : Int) / 20 = q := ⟨_, rfl⟩
  have q0 : 0 ≤ q := by omega
  have q1 : q ≤ 52429 := by omega
  rw [hq] at hm hw1 hw2
  clear hq
  by_cases h : 20 < 2 + q
  · go_enter Try.func47, Try.ntmps47
    go_wp2
    go_ret
    exact ⟨_, rfl, by decide, by decide, Below.refl _ _⟩
  · go_enter Try.func47, Try.ntmps47
    go_wp2
    go_ret
    exact ⟨_, rfl, by omega, by omega, Below.refl _ _⟩
set_option maxHeartbeats 12800000 in
set_option maxRecDepth 100000 in
theorem draw_ask (a : Option Addr) (L : List UInt8) (cap : Nat) (w : World) (hl : CodeAt w w.heap.size a L) (hlen : L.length ≤ 1048576) :
    Calls Try.prog 19 #[.slice a L.length cap] w fun e w' => ∃ (z : Sg) (qa : Option Addr) (qc : Nat) (y : Vt), e = .returned (.tuple #[sV z qa qc, tV y]) ∧ Hid (OwnY w' w.heap.size (.slice qa z.o.length qc) z.o) ∧ Hid (z.o.length ≤ 21) ∧ Below w.heap.size w w' := by
  obtain ⟨W0, hW0⟩ : ∃ W, (w.alloc (.cells #[.int .i64 0, .int .i64 0, .int .i64 0, .int .i64 0, .string ⟨#[]⟩, .int .i64 0, .int .i64 0, .int .i64 0, .string ⟨#[]⟩, .bool false, .slice none 0 0] 29)).alloc (.cells #[.int .i64 0, .int .i64 0, .int .i64 0, .string ⟨#[]⟩, .int .i64 0] 31) = W := ⟨_, rfl⟩
  have HP0 : Hid (Blk W0 w.heap.size [.int .i64 0, .int .i64 0, .int .i64 0, .int .i64 0, .string ⟨#[]⟩, .int .i64 0, .int .i64 0, .int .i64 0, .string ⟨#[]⟩, .bool false, .slice none 0 0] 29) := by
    rw [← hW0]
    have hnew := blk_new (w) [.int .i64 0, .int .i64 0, .int .i64 0, .int .i64 0, .string ⟨#[]⟩, .int .i64 0, .int .i64 0, .int .i64 0, .string ⟨#[]⟩, .bool false, .slice none 0 0] 29
    exact (hnew.alloc _)
  have HT0 : Hid (Blk W0 (w.heap.size + 1) [.int .i64 0, .int .i64 0, .int .i64 0, .string ⟨#[]⟩, .int .i64 0] 31) := by
    rw [← hW0]
    have hnew := blk_new (w.alloc (.cells #[.int .i64 0, .int .i64 0, .int .i64 0, .int .i64 0, .string ⟨#[]⟩, .int .i64 0, .int .i64 0, .int .i64 0, .string ⟨#[]⟩, .bool false, .slice none 0 0] 29)) [.int .i64 0, .int .i64 0, .int .i64 0, .string ⟨#[]⟩, .int .i64 0] 31
    rw [show (w.alloc (.cells #[.int .i64 0, .int .i64 0, .int .i64 0, .int .i64 0, .string ⟨#[]⟩, .int .i64 0, .int .i64 0, .int .i64 0, .string ⟨#[]⟩, .bool false, .slice none 0 0] 29)).heap.size = w.heap.size + 1 from by simp] at hnew
    exact hnew
  have HB0 : Hid (Below w.heap.size w W0) := by rw [← hW0]; exact ((Below.refl w.heap.size w).alloc (Nat.le_refl _) _).alloc (by simp; try omega) _
  go_enter Try.func19, Try.ntmps19
  have HL0 : Hid (CodeAt W0 W0.heap.size a L) := code_below hl HB0.out
  clear hl
  obtain ⟨g, hg⟩ : ∃ g, W0.heap.size = g := ⟨_, rfl⟩
  have hgP : w.heap.size < g := by rw [← hg]; exact HP0.out.lt
  have hgT : (w.heap.size + 1) < g := by rw [← hg]; exact HT0.out.lt
  go_wp2_with fail
  clear hW0
  refine (new_any a L cap _ HL0.out hlen).mono ?_
  rintro e w1 ⟨rfl, hwn⟩
  have bb : Below W0.heap.size W0 w1 := by rw [hwn]; exact below_one _ _
  have HD0 : Hid (DS w1 g (g + 1)) := by have h := ds_at (cap := cap) HL0.out hlen (newF L); rw [← hwn, hg] at h; exact h
  rw [hg]
  clear hg hwn HL0
  have HP1 : Hid (Blk w1 w.heap.size [.int .i64 0, .int .i64 0, .int .i64 0, .int .i64 0, .string ⟨#[]⟩, .int .i64 0, .int .i64 0, .int .i64 0, .string ⟨#[]⟩, .bool false, .slice none 0 0] 29) := HP0.out.below bb HP0.out.lt
  have HT1 : Hid (Blk w1 (w.heap.size + 1) [.int .i64 0, .int .i64 0, .int .i64 0, .string ⟨#[]⟩, .int .i64 0] 31) := HT0.out.below bb HT0.out.lt
  have HB1 : Hid (Below w.heap.size w w1) := HB0.out.trans (bb.mono HB0.out.size)
  clear HP0 HT0 HB0
  clear bb
  go_wp2_with fail
  refine (size_any a L.length cap _ hlen).mono ?_
  rintro e w2 ⟨m, rfl, m0, m1, bb⟩
  have HP2 : Hid (Blk w2 w.heap.size [.int .i64 0, .int .i64 0, .int .i64 0, .int .i64 0, .string ⟨#[]⟩, .int .i64 0, .int .i64 0, .int .i64 0, .string ⟨#[]⟩, .bool false, .slice none 0 0] 29) := HP1.out.below bb HP1.out.lt
  have HT2 : Hid (Blk w2 (w.heap.size + 1) [.int .i64 0, .int .i64 0, .int .i64 0, .string ⟨#[]⟩, .int .i64 0] 31) := HT1.out.below bb HT1.out.lt
  have HD2 : Hid (DS w2 g (g + 1)) := HD0.out.below (bb.mono (show g + 1 ≤ _ from HD0.out.lt'))
  have HB2 : Hid (Below w.heap.size w w2) := HB1.out.trans (bb.mono HB1.out.size)
  clear HP1 HT1 HB1 HD0
  clear bb
  obtain ⟨NB, hNB⟩ : ∃ n, w2.heap.size = n := ⟨_, rfl⟩
  have hgN : g < NB := by rw [← hNB]; exact HD2.out.lt'
  have HNB : Hid (w2.heap.size = NB) := hNB
  clear hNB
  go_wp2_with fail
  refine (some_d g (g + 1) m _ HD2.out (show g + 1 ≤ _ from HD2.out.lt') m0 m1).mono ?_
  rintro e w3 ⟨z, qa, qc, rfl, HQ, HZ, HDn, HGn⟩
  have HP3 : Hid (Blk w3 w.heap.size [.int .i64 0, .int .i64 0, .int .i64 0, .int .i64 0, .string ⟨#[]⟩, .int .i64 0, .int .i64 0, .int .i64 0, .string ⟨#[]⟩, .bool false, .slice none 0 0] 29) := HP2.out.grown HGn.out (fun e => by injection e with e; omega)
  have HT3 : Hid (Blk w3 (w.heap.size + 1) [.int .i64 0, .int .i64 0, .int .i64 0, .string ⟨#[]⟩, .int .i64 0] 31) := HT2.out.grown HGn.out (fun e => by injection e with e; omega)
  have HD3 : Hid (DS w3 g (g + 1)) := HDn
  have HB3 : Hid (Below w.heap.size w w3) := HB2.out.grown HGn.out HB2.out.size (fun j e => by injection e with e; omega)
  clear HGn HDn HP2 HT2 HB2 HD2
  have HQ0 : Hid (OwnY w3 NB (.slice qa z.o.length qc) z.o) := by rw [← HNB.out]; exact HQ.out
  clear HQ HNB
  obtain ⟨v, ⟨dh, dr, ds, di⟩, ⟨mh, mr, ms, mi⟩, p, o⟩ := z
  simp only at HQ0 HZ
  unfold sV sQ
  simp only
  obtain ⟨wa4, hwa4⟩ : ∃ W, w3.alloc (.cells #[.int .i64 v, .int .i64 dh, .int .i64 dr, .int .i64 ds, .string di, .int .i64 mh, .int .i64 mr, .int .i64 ms, .string mi, .bool p, .slice qa o.length qc] 29) = W := ⟨_, rfl⟩
  obtain ⟨nS, hnS⟩ : ∃ n, w3.heap.size = n := ⟨_, rfl⟩
  have hgS : g < nS := by rw [← hnS]; exact HD3.out.lt'
  have hnSP : w.heap.size < nS := by rw [← hnS]; exact HP3.out.lt
  have hnST : (w.heap.size + 1) < nS := by rw [← hnS]; exact HT3.out.lt
  have HAnS : Hid (Below w3.heap.size w3 wa4) := by rw [← hwa4]; exact below_one _ _
  have HP4 : Hid (Blk wa4 w.heap.size [.int .i64 0, .int .i64 0, .int .i64 0, .int .i64 0, .string ⟨#[]⟩, .int .i64 0, .int .i64 0, .int .i64 0, .string ⟨#[]⟩, .bool false, .slice none 0 0] 29) := HP3.out.below HAnS.out HP3.out.lt
  have HT4 : Hid (Blk wa4 (w.heap.size + 1) [.int .i64 0, .int .i64 0, .int .i64 0, .string ⟨#[]⟩, .int .i64 0] 31) := HT3.out.below HAnS.out HT3.out.lt
  have HD4 : Hid (DS wa4 g (g + 1)) := HD3.out.below (HAnS.out.mono (show g + 1 ≤ _ from HD3.out.lt'))
  have HQ4 : Hid (OwnY wa4 NB (.slice qa o.length qc) o) := own_keep HQ0.out HAnS.out
  have HB4 : Hid (Below w.heap.size w wa4) := HB3.out.trans (HAnS.out.mono HB3.out.size)
  have HS4 : Hid (Blk wa4 nS [.int .i64 v, .int .i64 dh, .int .i64 dr, .int .i64 ds, .string di, .int .i64 mh, .int .i64 mr, .int .i64 ms, .string mi, .bool p, .slice qa o.length qc] 29) := by rw [← hwa4, ← hnS]; exact blk_new _ _ _
  clear HAnS HP3 HT3 HB3 HD3 HQ0
  go_wp2_with fail
  clear hwa4 hnS
  refine (vote_d g (g + 1) _ HD4.out (show g + 1 ≤ _ from HD4.out.lt')).mono ?_
  rintro e w5 ⟨y, rfl, _, HDn, HGn⟩
  have HP5 : Hid (Blk w5 w.heap.size [.int .i64 0, .int .i64 0, .int .i64 0, .int .i64 0, .string ⟨#[]⟩, .int .i64 0, .int .i64 0, .int .i64 0, .string ⟨#[]⟩, .bool false, .slice none 0 0] 29) := HP4.out.grown HGn.out (fun e => by injection e with e; omega)
  have HT5 : Hid (Blk w5 (w.heap.size + 1) [.int .i64 0, .int .i64 0, .int .i64 0, .string ⟨#[]⟩, .int .i64 0] 31) := HT4.out.grown HGn.out (fun e => by injection e with e; omega)
  have HS5 : Hid (Blk w5 nS [.int .i64 v, .int .i64 dh, .int .i64 dr, .int .i64 ds, .string di, .int .i64 mh, .int .i64 mr, .int .i64 ms, .string mi, .bool p, .slice qa o.length qc] 29) := HS4.out.grown HGn.out (fun e => by injection e with e; omega)
  have HD5 : Hid (DS w5 g (g + 1)) := HDn
  have HQ5 : Hid (OwnY w5 NB (.slice qa o.length qc) o) := own_still HQ4.out HGn.out (fun j e => by injection e with e; omega)
  have HB5 : Hid (Below w.heap.size w w5) := HB4.out.grown HGn.out HB4.out.size (fun j e => by injection e with e; omega)
  clear HGn HDn HP4 HT4 HS4 HB4 HD4 HQ4
  obtain ⟨yh, yr, ys, yi, yv⟩ := y
  unfold tV
  simp only
  have HqV0 : Hid (∀ j, (Value.slice qa o.length qc).ownBlock = some j → j < w5.heap.size) := fun j e => (World.ownsRow.lt (show World.ownsRow _ NB 31 5 (.slice qa o.length qc) o.length (ycs o) from HQ5.out) j e).2
  obtain ⟨wa6, hwa6⟩ : ∃ W, w5.alloc (.cells #[.int .i64 yh, .int .i64 yr, .int .i64 ys, .string yi, .int .i64 yv] 31) = W := ⟨_, rfl⟩
  obtain ⟨nV, hnV⟩ : ∃ n, w5.heap.size = n := ⟨_, rfl⟩
  have HqV : Hid ((Value.slice qa o.length qc).ownBlock ≠ some nV) := fun e => by have := HqV0.out nV e; omega
  clear HqV0
  have hnVP : w.heap.size < nV := by rw [← hnV]; exact HP5.out.lt
  have hnVT : (w.heap.size + 1) < nV := by rw [← hnV]; exact HT5.out.lt
  have hnVS : nS < nV := by rw [← hnV]; exact HS5.out.lt
  have hgV : g < nV := by omega
  have HAnV : Hid (Below w5.heap.size w5 wa6) := by rw [← hwa6]; exact below_one _ _
  have HP6 : Hid (Blk wa6 w.heap.size [.int .i64 0, .int .i64 0, .int .i64 0, .int .i64 0, .string ⟨#[]⟩, .int .i64 0, .int .i64 0, .int .i64 0, .string ⟨#[]⟩, .bool false, .slice none 0 0] 29) := HP5.out.below HAnV.out HP5.out.lt
  have HT6 : Hid (Blk wa6 (w.heap.size + 1) [.int .i64 0, .int .i64 0, .int .i64 0, .string ⟨#[]⟩, .int .i64 0] 31) := HT5.out.below HAnV.out HT5.out.lt
  have HS6 : Hid (Blk wa6 nS [.int .i64 v, .int .i64 dh, .int .i64 dr, .int .i64 ds, .string di, .int .i64 mh, .int .i64 mr, .int .i64 ms, .string mi, .bool p, .slice qa o.length qc] 29) := HS5.out.below HAnV.out HS5.out.lt
  have HD6 : Hid (DS wa6 g (g + 1)) := HD5.out.below (HAnV.out.mono (show g + 1 ≤ _ from HD5.out.lt'))
  have HQ6 : Hid (OwnY wa6 NB (.slice qa o.length qc) o) := own_keep HQ5.out HAnV.out
  have HB6 : Hid (Below w.heap.size w wa6) := HB5.out.trans (HAnV.out.mono HB5.out.size)
  have HV6 : Hid (Blk wa6 nV [.int .i64 yh, .int .i64 yr, .int .i64 ys, .string yi, .int .i64 yv] 31) := by rw [← hwa6, ← hnV]; exact blk_new _ _ _
  clear HAnV HP5 HT5 HS5 HB5 HD5 HQ5
  go_wp2_with fail
  clear hwa6 hnV
  refine (once_d g (g + 1) 5 _ HD6.out).mono ?_
  rintro e w7 ⟨t, rfl, HDn, HGn⟩
  have HP7 : Hid (Blk w7 w.heap.size [.int .i64 0, .int .i64 0, .int .i64 0, .int .i64 0, .string ⟨#[]⟩, .int .i64 0, .int .i64 0, .int .i64 0, .string ⟨#[]⟩, .bool false, .slice none 0 0] 29) := HP6.out.grown HGn.out (fun e => by injection e with e; omega)
  have HT7 : Hid (Blk w7 (w.heap.size + 1) [.int .i64 0, .int .i64 0, .int .i64 0, .string ⟨#[]⟩, .int .i64 0] 31) := HT6.out.grown HGn.out (fun e => by injection e with e; omega)
  have HS7 : Hid (Blk w7 nS [.int .i64 v, .int .i64 dh, .int .i64 dr, .int .i64 ds, .string di, .int .i64 mh, .int .i64 mr, .int .i64 ms, .string mi, .bool p, .slice qa o.length qc] 29) := HS6.out.grown HGn.out (fun e => by injection e with e; omega)
  have HV7 : Hid (Blk w7 nV [.int .i64 yh, .int .i64 yr, .int .i64 ys, .string yi, .int .i64 yv] 31) := HV6.out.grown HGn.out (fun e => by injection e with e; omega)
  have HD7 : Hid (DS w7 g (g + 1)) := HDn
  have HQ7 : Hid (OwnY w7 NB (.slice qa o.length qc) o) := own_still HQ6.out HGn.out (fun j e => by injection e with e; omega)
  have HB7 : Hid (Below w.heap.size w w7) := HB6.out.grown HGn.out HB6.out.size (fun j e => by injection e with e; omega)
  clear HGn HDn HP6 HT6 HS6 HV6 HB6 HD6 HQ6
  rcases t with _ | _
  · skip
    have cS_0_7 := HS7.out.cell 0 rfl
    have cS_1_7 := HS7.out.cell 1 rfl
    have cS_2_7 := HS7.out.cell 2 rfl
    have cS_3_7 := HS7.out.cell 3 rfl
    have cS_4_7 := HS7.out.cell 4 rfl
    have cS_5_7 := HS7.out.cell 5 rfl
    have cS_6_7 := HS7.out.cell 6 rfl
    have cS_7_7 := HS7.out.cell 7 rfl
    have cS_8_7 := HS7.out.cell 8 rfl
    have cS_9_7 := HS7.out.cell 9 rfl
    have cS_10_7 := HS7.out.cell 10 rfl
    have cV_0_7 := HV7.out.cell 0 rfl
    have cV_1_7 := HV7.out.cell 1 rfl
    have cV_2_7 := HV7.out.cell 2 rfl
    have cV_3_7 := HV7.out.cell 3 rfl
    have cV_4_7 := HV7.out.cell 4 rfl
    have zV_7 := fun j => HV7.out.frozen j
    have KP := (HP7.out.other 4 (.int .i64 v) (show w.heap.size ≠ nV by omega))
    have KT := (HT7.out.other 4 (.int .i64 v) (show (w.heap.size + 1) ≠ nV by omega))
    have KS := (HS7.out.other 4 (.int .i64 v) (show nS ≠ nV by omega))
    have KV := (HV7.out.set 4 (.int .i64 v))
    have KB := (HB7.out.setCell (p := ⟨nV, 4, none⟩) (show w.heap.size ≤ nV by omega) (.int .i64 v))
    have KG : Hid (w7.grownBy (w7.setCell ⟨nV, 4, none⟩ (.int .i64 v)) (some nV)) := grown_set (grown_refl _ _) _
    have KD : Hid (DS (w7.setCell ⟨nV, 4, none⟩ (.int .i64 v)) g (g + 1)) := HD7.out.below ((Below.refl (g + 1) _).grown KG.out (show g + 1 ≤ _ from HD7.out.lt') (fun j e => by injection e with e; omega))
    have KQ : Hid (OwnY (w7.setCell ⟨nV, 4, none⟩ (.int .i64 v)) NB (.slice qa o.length qc) o) := World.ownsRow.kept (show World.ownsRow _ NB 31 5 (.slice qa o.length qc) o.length (ycs o) from HQ7.out) KG.out (.inr HqV.out)
    go_upto_region 6 with fail
    clear cS_0_7 cS_1_7 cS_2_7 cS_3_7 cS_4_7 cS_5_7 cS_6_7 cS_7_7 cS_8_7 cS_9_7 cS_10_7 cV_0_7 cV_1_7 cV_2_7 cV_3_7 cV_4_7 zV_7
    generalize ((w7.setCell _ _) : World) = w8 at *
    have HP8 : Hid (Blk w8 w.heap.size [.int .i64 0, .int .i64 0, .int .i64 0, .int .i64 0, .string ⟨#[]⟩, .int .i64 0, .int .i64 0, .int .i64 0, .string ⟨#[]⟩, .bool false, .slice none 0 0] 29) := KP
    have HT8 : Hid (Blk w8 (w.heap.size + 1) [.int .i64 0, .int .i64 0, .int .i64 0, .string ⟨#[]⟩, .int .i64 0] 31) := KT
    have HS8 : Hid (Blk w8 nS [.int .i64 v, .int .i64 dh, .int .i64 dr, .int .i64 ds, .string di, .int .i64 mh, .int .i64 mr, .int .i64 ms, .string mi, .bool p, .slice qa o.length qc] 29) := KS
    have HV8 : Hid (Blk w8 nV [.int .i64 yh, .int .i64 yr, .int .i64 ys, .string yi, .int .i64 v] 31) := KV
    have HD8 : Hid (DS w8 g (g + 1)) := KD
    have HQ8 : Hid (OwnY w8 NB (.slice qa o.length qc) o) := KQ
    have HB8 : Hid (Below w.heap.size w w8) := KB
    clear KP KT KS KV KB KG KD KQ HP7 HT7 HS7 HV7 HB7 HD7 HQ7
    have cS_0_8 := HS8.out.cell 0 rfl
    have cS_1_8 := HS8.out.cell 1 rfl
    have cS_2_8 := HS8.out.cell 2 rfl
    have cS_3_8 := HS8.out.cell 3 rfl
    have cS_4_8 := HS8.out.cell 4 rfl
    have cS_5_8 := HS8.out.cell 5 rfl
    have cS_6_8 := HS8.out.cell 6 rfl
    have cS_7_8 := HS8.out.cell 7 rfl
    have cS_8_8 := HS8.out.cell 8 rfl
    have cS_9_8 := HS8.out.cell 9 rfl
    have cS_10_8 := HS8.out.cell 10 rfl
    have cV_0_8 := HV8.out.cell 0 rfl
    have cV_1_8 := HV8.out.cell 1 rfl
    have cV_2_8 := HV8.out.cell 2 rfl
    have cV_3_8 := HV8.out.cell 3 rfl
    have cV_4_8 := HV8.out.cell 4 rfl
    go_wp2_with fail
    have cP_0_8 := HP8.out.cell 0 rfl
    have cP_1_8 := HP8.out.cell 1 rfl
    have cP_2_8 := HP8.out.cell 2 rfl
    have cP_3_8 := HP8.out.cell 3 rfl
    have cP_4_8 := HP8.out.cell 4 rfl
    have cP_5_8 := HP8.out.cell 5 rfl
    have cP_6_8 := HP8.out.cell 6 rfl
    have cP_7_8 := HP8.out.cell 7 rfl
    have cP_8_8 := HP8.out.cell 8 rfl
    have cP_9_8 := HP8.out.cell 9 rfl
    have cP_10_8 := HP8.out.cell 10 rfl
    have cT_0_8 := HT8.out.cell 0 rfl
    have cT_1_8 := HT8.out.cell 1 rfl
    have cT_2_8 := HT8.out.cell 2 rfl
    have cT_3_8 := HT8.out.cell 3 rfl
    have cT_4_8 := HT8.out.cell 4 rfl
    have zP_8 := fun j => HP8.out.frozen j
    have zT_8 := fun j => HT8.out.frozen j
    have KG1 : Hid (w8.grownBy (((((((((((w8.setCell ⟨w.heap.size, 0, none⟩ (.int .i64 v)).setCell ⟨w.heap.size, 1, none⟩ (.int .i64 dh)).setCell ⟨w.heap.size, 2, none⟩ (.int .i64 dr)).setCell ⟨w.heap.size, 3, none⟩ (.int .i64 ds)).setCell ⟨w.heap.size, 4, none⟩ (.string di)).setCell ⟨w.heap.size, 5, none⟩ (.int .i64 mh)).setCell ⟨w.heap.size, 6, none⟩ (.int .i64 mr)).setCell ⟨w.heap.size, 7, none⟩ (.int .i64 ms)).setCell ⟨w.heap.size, 8, none⟩ (.string mi)).setCell ⟨w.heap.size, 9, none⟩ (.bool p)).setCell ⟨w.heap.size, 10, none⟩ (.slice qa o.length qc)) (some w.heap.size)) := grown_set (grown_set (grown_set (grown_set (grown_set (grown_set (grown_set (grown_set (grown_set (grown_set (grown_set (grown_refl _ _) _) _) _) _) _) _) _) _) _) _) _
    have KG2 : Hid ((((((((((((w8.setCell ⟨w.heap.size, 0, none⟩ (.int .i64 v)).setCell ⟨w.heap.size, 1, none⟩ (.int .i64 dh)).setCell ⟨w.heap.size, 2, none⟩ (.int .i64 dr)).setCell ⟨w.heap.size, 3, none⟩ (.int .i64 ds)).setCell ⟨w.heap.size, 4, none⟩ (.string di)).setCell ⟨w.heap.size, 5, none⟩ (.int .i64 mh)).setCell ⟨w.heap.size, 6, none⟩ (.int .i64 mr)).setCell ⟨w.heap.size, 7, none⟩ (.int .i64 ms)).setCell ⟨w.heap.size, 8, none⟩ (.string mi)).setCell ⟨w.heap.size, 9, none⟩ (.bool p)).setCell ⟨w.heap.size, 10, none⟩ (.slice qa o.length qc)).grownBy ((((((((((((((((w8.setCell ⟨w.heap.size, 0, none⟩ (.int .i64 v)).setCell ⟨w.heap.size, 1, none⟩ (.int .i64 dh)).setCell ⟨w.heap.size, 2, none⟩ (.int .i64 dr)).setCell ⟨w.heap.size, 3, none⟩ (.int .i64 ds)).setCell ⟨w.heap.size, 4, none⟩ (.string di)).setCell ⟨w.heap.size, 5, none⟩ (.int .i64 mh)).setCell ⟨w.heap.size, 6, none⟩ (.int .i64 mr)).setCell ⟨w.heap.size, 7, none⟩ (.int .i64 ms)).setCell ⟨w.heap.size, 8, none⟩ (.string mi)).setCell ⟨w.heap.size, 9, none⟩ (.bool p)).setCell ⟨w.heap.size, 10, none⟩ (.slice qa o.length qc)).setCell ⟨(w.heap.size + 1), 0, none⟩ (.int .i64 yh)).setCell ⟨(w.heap.size + 1), 1, none⟩ (.int .i64 yr)).setCell ⟨(w.heap.size + 1), 2, none⟩ (.int .i64 ys)).setCell ⟨(w.heap.size + 1), 3, none⟩ (.string yi)).setCell ⟨(w.heap.size + 1), 4, none⟩ (.int .i64 v)) (some (w.heap.size + 1))) := grown_set (grown_set (grown_set (grown_set (grown_set (grown_refl _ _) _) _) _) _) _
    have K1 : Hid (Blk ((((((((((((((((w8.setCell ⟨w.heap.size, 0, none⟩ (.int .i64 v)).setCell ⟨w.heap.size, 1, none⟩ (.int .i64 dh)).setCell ⟨w.heap.size, 2, none⟩ (.int .i64 dr)).setCell ⟨w.heap.size, 3, none⟩ (.int .i64 ds)).setCell ⟨w.heap.size, 4, none⟩ (.string di)).setCell ⟨w.heap.size, 5, none⟩ (.int .i64 mh)).setCell ⟨w.heap.size, 6, none⟩ (.int .i64 mr)).setCell ⟨w.heap.size, 7, none⟩ (.int .i64 ms)).setCell ⟨w.heap.size, 8, none⟩ (.string mi)).setCell ⟨w.heap.size, 9, none⟩ (.bool p)).setCell ⟨w.heap.size, 10, none⟩ (.slice qa o.length qc)).setCell ⟨(w.heap.size + 1), 0, none⟩ (.int .i64 yh)).setCell ⟨(w.heap.size + 1), 1, none⟩ (.int .i64 yr)).setCell ⟨(w.heap.size + 1), 2, none⟩ (.int .i64 ys)).setCell ⟨(w.heap.size + 1), 3, none⟩ (.string yi)).setCell ⟨(w.heap.size + 1), 4, none⟩ (.int .i64 v)) w.heap.size [.int .i64 v, .int .i64 dh, .int .i64 dr, .int .i64 ds, .string di, .int .i64 mh, .int .i64 mr, .int .i64 ms, .string mi, .bool p, .slice qa o.length qc] 29) := (show Blk (((((((((((w8.setCell ⟨w.heap.size, 0, none⟩ (.int .i64 v)).setCell ⟨w.heap.size, 1, none⟩ (.int .i64 dh)).setCell ⟨w.heap.size, 2, none⟩ (.int .i64 dr)).setCell ⟨w.heap.size, 3, none⟩ (.int .i64 ds)).setCell ⟨w.heap.size, 4, none⟩ (.string di)).setCell ⟨w.heap.size, 5, none⟩ (.int .i64 mh)).setCell ⟨w.heap.size, 6, none⟩ (.int .i64 mr)).setCell ⟨w.heap.size, 7, none⟩ (.int .i64 ms)).setCell ⟨w.heap.size, 8, none⟩ (.string mi)).setCell ⟨w.heap.size, 9, none⟩ (.bool p)).setCell ⟨w.heap.size, 10, none⟩ (.slice qa o.length qc)) w.heap.size [.int .i64 v, .int .i64 dh, .int .i64 dr, .int .i64 ds, .string di, .int .i64 mh, .int .i64 mr, .int .i64 ms, .string mi, .bool p, .slice qa o.length qc] 29 from (((((((((((HP8.out.set 0 (.int .i64 v)).set 1 (.int .i64 dh)).set 2 (.int .i64 dr)).set 3 (.int .i64 ds)).set 4 (.string di)).set 5 (.int .i64 mh)).set 6 (.int .i64 mr)).set 7 (.int .i64 ms)).set 8 (.string mi)).set 9 (.bool p)).set 10 (.slice qa o.length qc))).grown KG2.out (fun e => by injection e with e; omega)
    have K2 : Hid (Blk ((((((((((((((((w8.setCell ⟨w.heap.size, 0, none⟩ (.int .i64 v)).setCell ⟨w.heap.size, 1, none⟩ (.int .i64 dh)).setCell ⟨w.heap.size, 2, none⟩ (.int .i64 dr)).setCell ⟨w.heap.size, 3, none⟩ (.int .i64 ds)).setCell ⟨w.heap.size, 4, none⟩ (.string di)).setCell ⟨w.heap.size, 5, none⟩ (.int .i64 mh)).setCell ⟨w.heap.size, 6, none⟩ (.int .i64 mr)).setCell ⟨w.heap.size, 7, none⟩ (.int .i64 ms)).setCell ⟨w.heap.size, 8, none⟩ (.string mi)).setCell ⟨w.heap.size, 9, none⟩ (.bool p)).setCell ⟨w.heap.size, 10, none⟩ (.slice qa o.length qc)).setCell ⟨(w.heap.size + 1), 0, none⟩ (.int .i64 yh)).setCell ⟨(w.heap.size + 1), 1, none⟩ (.int .i64 yr)).setCell ⟨(w.heap.size + 1), 2, none⟩ (.int .i64 ys)).setCell ⟨(w.heap.size + 1), 3, none⟩ (.string yi)).setCell ⟨(w.heap.size + 1), 4, none⟩ (.int .i64 v)) (w.heap.size + 1) [.int .i64 yh, .int .i64 yr, .int .i64 ys, .string yi, .int .i64 v] 31) := ((((((HT8.out.grown KG1.out (fun e => by injection e with e; omega)).set 0 (.int .i64 yh)).set 1 (.int .i64 yr)).set 2 (.int .i64 ys)).set 3 (.string yi)).set 4 (.int .i64 v))
    have KB : Hid (Below w.heap.size w ((((((((((((((((w8.setCell ⟨w.heap.size, 0, none⟩ (.int .i64 v)).setCell ⟨w.heap.size, 1, none⟩ (.int .i64 dh)).setCell ⟨w.heap.size, 2, none⟩ (.int .i64 dr)).setCell ⟨w.heap.size, 3, none⟩ (.int .i64 ds)).setCell ⟨w.heap.size, 4, none⟩ (.string di)).setCell ⟨w.heap.size, 5, none⟩ (.int .i64 mh)).setCell ⟨w.heap.size, 6, none⟩ (.int .i64 mr)).setCell ⟨w.heap.size, 7, none⟩ (.int .i64 ms)).setCell ⟨w.heap.size, 8, none⟩ (.string mi)).setCell ⟨w.heap.size, 9, none⟩ (.bool p)).setCell ⟨w.heap.size, 10, none⟩ (.slice qa o.length qc)).setCell ⟨(w.heap.size + 1), 0, none⟩ (.int .i64 yh)).setCell ⟨(w.heap.size + 1), 1, none⟩ (.int .i64 yr)).setCell ⟨(w.heap.size + 1), 2, none⟩ (.int .i64 ys)).setCell ⟨(w.heap.size + 1), 3, none⟩ (.string yi)).setCell ⟨(w.heap.size + 1), 4, none⟩ (.int .i64 v))) := (HB8.out.grown KG1.out HB8.out.size (fun j e => by injection e with e; omega)).grown KG2.out (Nat.le_trans HB8.out.size KG1.out.size) (fun j e => by injection e with e; omega)
    have KQ : Hid (OwnY ((((((((((((((((w8.setCell ⟨w.heap.size, 0, none⟩ (.int .i64 v)).setCell ⟨w.heap.size, 1, none⟩ (.int .i64 dh)).setCell ⟨w.heap.size, 2, none⟩ (.int .i64 dr)).setCell ⟨w.heap.size, 3, none⟩ (.int .i64 ds)).setCell ⟨w.heap.size, 4, none⟩ (.string di)).setCell ⟨w.heap.size, 5, none⟩ (.int .i64 mh)).setCell ⟨w.heap.size, 6, none⟩ (.int .i64 mr)).setCell ⟨w.heap.size, 7, none⟩ (.int .i64 ms)).setCell ⟨w.heap.size, 8, none⟩ (.string mi)).setCell ⟨w.heap.size, 9, none⟩ (.bool p)).setCell ⟨w.heap.size, 10, none⟩ (.slice qa o.length qc)).setCell ⟨(w.heap.size + 1), 0, none⟩ (.int .i64 yh)).setCell ⟨(w.heap.size + 1), 1, none⟩ (.int .i64 yr)).setCell ⟨(w.heap.size + 1), 2, none⟩ (.int .i64 ys)).setCell ⟨(w.heap.size + 1), 3, none⟩ (.string yi)).setCell ⟨(w.heap.size + 1), 4, none⟩ (.int .i64 v)) NB (.slice qa o.length qc) o) := own_still (own_still HQ8.out KG1.out (fun j e => by injection e with e; omega)) KG2.out (fun j e => by injection e with e; omega)
    have hDr := (Below.refl ((((((((((((((((w8.setCell ⟨w.heap.size, 0, none⟩ (.int .i64 v)).setCell ⟨w.heap.size, 1, none⟩ (.int .i64 dh)).setCell ⟨w.heap.size, 2, none⟩ (.int .i64 dr)).setCell ⟨w.heap.size, 3, none⟩ (.int .i64 ds)).setCell ⟨w.heap.size, 4, none⟩ (.string di)).setCell ⟨w.heap.size, 5, none⟩ (.int .i64 mh)).setCell ⟨w.heap.size, 6, none⟩ (.int .i64 mr)).setCell ⟨w.heap.size, 7, none⟩ (.int .i64 ms)).setCell ⟨w.heap.size, 8, none⟩ (.string mi)).setCell ⟨w.heap.size, 9, none⟩ (.bool p)).setCell ⟨w.heap.size, 10, none⟩ (.slice qa o.length qc)).setCell ⟨(w.heap.size + 1), 0, none⟩ (.int .i64 yh)).setCell ⟨(w.heap.size + 1), 1, none⟩ (.int .i64 yr)).setCell ⟨(w.heap.size + 1), 2, none⟩ (.int .i64 ys)).setCell ⟨(w.heap.size + 1), 3, none⟩ (.string yi)).setCell ⟨(w.heap.size + 1), 4, none⟩ (.int .i64 v)).heap.size ((((((((((((((((w8.setCell ⟨w.heap.size, 0, none⟩ (.int .i64 v)).setCell ⟨w.heap.size, 1, none⟩ (.int .i64 dh)).setCell ⟨w.heap.size, 2, none⟩ (.int .i64 dr)).setCell ⟨w.heap.size, 3, none⟩ (.int .i64 ds)).setCell ⟨w.heap.size, 4, none⟩ (.string di)).setCell ⟨w.heap.size, 5, none⟩ (.int .i64 mh)).setCell ⟨w.heap.size, 6, none⟩ (.int .i64 mr)).setCell ⟨w.heap.size, 7, none⟩ (.int .i64 ms)).setCell ⟨w.heap.size, 8, none⟩ (.string mi)).setCell ⟨w.heap.size, 9, none⟩ (.bool p)).setCell ⟨w.heap.size, 10, none⟩ (.slice qa o.length qc)).setCell ⟨(w.heap.size + 1), 0, none⟩ (.int .i64 yh)).setCell ⟨(w.heap.size + 1), 1, none⟩ (.int .i64 yr)).setCell ⟨(w.heap.size + 1), 2, none⟩ (.int .i64 ys)).setCell ⟨(w.heap.size + 1), 3, none⟩ (.string yi)).setCell ⟨(w.heap.size + 1), 4, none⟩ (.int .i64 v))).drew
    have J1 : Hid (Blk ((((((((((((((((w8.setCell ⟨w.heap.size, 0, none⟩ (.int .i64 v)).setCell ⟨w.heap.size, 1, none⟩ (.int .i64 dh)).setCell ⟨w.heap.size, 2, none⟩ (.int .i64 dr)).setCell ⟨w.heap.size, 3, none⟩ (.int .i64 ds)).setCell ⟨w.heap.size, 4, none⟩ (.string di)).setCell ⟨w.heap.size, 5, none⟩ (.int .i64 mh)).setCell ⟨w.heap.size, 6, none⟩ (.int .i64 mr)).setCell ⟨w.heap.size, 7, none⟩ (.int .i64 ms)).setCell ⟨w.heap.size, 8, none⟩ (.string mi)).setCell ⟨w.heap.size, 9, none⟩ (.bool p)).setCell ⟨w.heap.size, 10, none⟩ (.slice qa o.length qc)).setCell ⟨(w.heap.size + 1), 0, none⟩ (.int .i64 yh)).setCell ⟨(w.heap.size + 1), 1, none⟩ (.int .i64 yr)).setCell ⟨(w.heap.size + 1), 2, none⟩ (.int .i64 ys)).setCell ⟨(w.heap.size + 1), 3, none⟩ (.string yi)).setCell ⟨(w.heap.size + 1), 4, none⟩ (.int .i64 v)).drew w.heap.size [.int .i64 v, .int .i64 dh, .int .i64 dr, .int .i64 ds, .string di, .int .i64 mh, .int .i64 mr, .int .i64 ms, .string mi, .bool p, .slice qa o.length qc] 29) := K1.out.below hDr K1.out.lt
    have J2 : Hid (Blk ((((((((((((((((w8.setCell ⟨w.heap.size, 0, none⟩ (.int .i64 v)).setCell ⟨w.heap.size, 1, none⟩ (.int .i64 dh)).setCell ⟨w.heap.size, 2, none⟩ (.int .i64 dr)).setCell ⟨w.heap.size, 3, none⟩ (.int .i64 ds)).setCell ⟨w.heap.size, 4, none⟩ (.string di)).setCell ⟨w.heap.size, 5, none⟩ (.int .i64 mh)).setCell ⟨w.heap.size, 6, none⟩ (.int .i64 mr)).setCell ⟨w.heap.size, 7, none⟩ (.int .i64 ms)).setCell ⟨w.heap.size, 8, none⟩ (.string mi)).setCell ⟨w.heap.size, 9, none⟩ (.bool p)).setCell ⟨w.heap.size, 10, none⟩ (.slice qa o.length qc)).setCell ⟨(w.heap.size + 1), 0, none⟩ (.int .i64 yh)).setCell ⟨(w.heap.size + 1), 1, none⟩ (.int .i64 yr)).setCell ⟨(w.heap.size + 1), 2, none⟩ (.int .i64 ys)).setCell ⟨(w.heap.size + 1), 3, none⟩ (.string yi)).setCell ⟨(w.heap.size + 1), 4, none⟩ (.int .i64 v)).drew (w.heap.size + 1) [.int .i64 yh, .int .i64 yr, .int .i64 ys, .string yi, .int .i64 v] 31) := K2.out.below hDr K2.out.lt
    have JB : Hid (Below w.heap.size w ((((((((((((((((w8.setCell ⟨w.heap.size, 0, none⟩ (.int .i64 v)).setCell ⟨w.heap.size, 1, none⟩ (.int .i64 dh)).setCell ⟨w.heap.size, 2, none⟩ (.int .i64 dr)).setCell ⟨w.heap.size, 3, none⟩ (.int .i64 ds)).setCell ⟨w.heap.size, 4, none⟩ (.string di)).setCell ⟨w.heap.size, 5, none⟩ (.int .i64 mh)).setCell ⟨w.heap.size, 6, none⟩ (.int .i64 mr)).setCell ⟨w.heap.size, 7, none⟩ (.int .i64 ms)).setCell ⟨w.heap.size, 8, none⟩ (.string mi)).setCell ⟨w.heap.size, 9, none⟩ (.bool p)).setCell ⟨w.heap.size, 10, none⟩ (.slice qa o.length qc)).setCell ⟨(w.heap.size + 1), 0, none⟩ (.int .i64 yh)).setCell ⟨(w.heap.size + 1), 1, none⟩ (.int .i64 yr)).setCell ⟨(w.heap.size + 1), 2, none⟩ (.int .i64 ys)).setCell ⟨(w.heap.size + 1), 3, none⟩ (.string yi)).setCell ⟨(w.heap.size + 1), 4, none⟩ (.int .i64 v)).drew) := KB.out.trans (hDr.mono KB.out.size)
    have JQ : Hid (OwnY ((((((((((((((((w8.setCell ⟨w.heap.size, 0, none⟩ (.int .i64 v)).setCell ⟨w.heap.size, 1, none⟩ (.int .i64 dh)).setCell ⟨w.heap.size, 2, none⟩ (.int .i64 dr)).setCell ⟨w.heap.size, 3, none⟩ (.int .i64 ds)).setCell ⟨w.heap.size, 4, none⟩ (.string di)).setCell ⟨w.heap.size, 5, none⟩ (.int .i64 mh)).setCell ⟨w.heap.size, 6, none⟩ (.int .i64 mr)).setCell ⟨w.heap.size, 7, none⟩ (.int .i64 ms)).setCell ⟨w.heap.size, 8, none⟩ (.string mi)).setCell ⟨w.heap.size, 9, none⟩ (.bool p)).setCell ⟨w.heap.size, 10, none⟩ (.slice qa o.length qc)).setCell ⟨(w.heap.size + 1), 0, none⟩ (.int .i64 yh)).setCell ⟨(w.heap.size + 1), 1, none⟩ (.int .i64 yr)).setCell ⟨(w.heap.size + 1), 2, none⟩ (.int .i64 ys)).setCell ⟨(w.heap.size + 1), 3, none⟩ (.string yi)).setCell ⟨(w.heap.size + 1), 4, none⟩ (.int .i64 v)).drew NB (.slice qa o.length qc) o) := own_keep KQ.out hDr
    clear K1 K2 KB hDr KQ
    have m_0 : ((((((((((((w8.setCell ⟨w.heap.size, 0, none⟩ (.int .i64 v)).setCell ⟨w.heap.size, 1, none⟩ (.int .i64 dh)).setCell ⟨w.heap.size, 2, none⟩ (.int .i64 dr)).setCell ⟨w.heap.size, 3, none⟩ (.int .i64 ds)).setCell ⟨w.heap.size, 4, none⟩ (.string di)).setCell ⟨w.heap.size, 5, none⟩ (.int .i64 mh)).setCell ⟨w.heap.size, 6, none⟩ (.int .i64 mr)).setCell ⟨w.heap.size, 7, none⟩ (.int .i64 ms)).setCell ⟨w.heap.size, 8, none⟩ (.string mi)).setCell ⟨w.heap.size, 9, none⟩ (.bool p)).setCell ⟨w.heap.size, 10, none⟩ (.slice qa o.length qc))).cell? ⟨nV, 0, none⟩ = some (.int .i64 yh) := (HV8.out.grown KG1.out (fun e => by injection e with e; omega)).cell 0 rfl
    have m_1 : ((((((((((((w8.setCell ⟨w.heap.size, 0, none⟩ (.int .i64 v)).setCell ⟨w.heap.size, 1, none⟩ (.int .i64 dh)).setCell ⟨w.heap.size, 2, none⟩ (.int .i64 dr)).setCell ⟨w.heap.size, 3, none⟩ (.int .i64 ds)).setCell ⟨w.heap.size, 4, none⟩ (.string di)).setCell ⟨w.heap.size, 5, none⟩ (.int .i64 mh)).setCell ⟨w.heap.size, 6, none⟩ (.int .i64 mr)).setCell ⟨w.heap.size, 7, none⟩ (.int .i64 ms)).setCell ⟨w.heap.size, 8, none⟩ (.string mi)).setCell ⟨w.heap.size, 9, none⟩ (.bool p)).setCell ⟨w.heap.size, 10, none⟩ (.slice qa o.length qc))).cell? ⟨nV, 1, none⟩ = some (.int .i64 yr) := (HV8.out.grown KG1.out (fun e => by injection e with e; omega)).cell 1 rfl
    have m_2 : ((((((((((((w8.setCell ⟨w.heap.size, 0, none⟩ (.int .i64 v)).setCell ⟨w.heap.size, 1, none⟩ (.int .i64 dh)).setCell ⟨w.heap.size, 2, none⟩ (.int .i64 dr)).setCell ⟨w.heap.size, 3, none⟩ (.int .i64 ds)).setCell ⟨w.heap.size, 4, none⟩ (.string di)).setCell ⟨w.heap.size, 5, none⟩ (.int .i64 mh)).setCell ⟨w.heap.size, 6, none⟩ (.int .i64 mr)).setCell ⟨w.heap.size, 7, none⟩ (.int .i64 ms)).setCell ⟨w.heap.size, 8, none⟩ (.string mi)).setCell ⟨w.heap.size, 9, none⟩ (.bool p)).setCell ⟨w.heap.size, 10, none⟩ (.slice qa o.length qc))).cell? ⟨nV, 2, none⟩ = some (.int .i64 ys) := (HV8.out.grown KG1.out (fun e => by injection e with e; omega)).cell 2 rfl
    have m_3 : ((((((((((((w8.setCell ⟨w.heap.size, 0, none⟩ (.int .i64 v)).setCell ⟨w.heap.size, 1, none⟩ (.int .i64 dh)).setCell ⟨w.heap.size, 2, none⟩ (.int .i64 dr)).setCell ⟨w.heap.size, 3, none⟩ (.int .i64 ds)).setCell ⟨w.heap.size, 4, none⟩ (.string di)).setCell ⟨w.heap.size, 5, none⟩ (.int .i64 mh)).setCell ⟨w.heap.size, 6, none⟩ (.int .i64 mr)).setCell ⟨w.heap.size, 7, none⟩ (.int .i64 ms)).setCell ⟨w.heap.size, 8, none⟩ (.string mi)).setCell ⟨w.heap.size, 9, none⟩ (.bool p)).setCell ⟨w.heap.size, 10, none⟩ (.slice qa o.length qc))).cell? ⟨nV, 3, none⟩ = some (.string yi) := (HV8.out.grown KG1.out (fun e => by injection e with e; omega)).cell 3 rfl
    have m_4 : ((((((((((((w8.setCell ⟨w.heap.size, 0, none⟩ (.int .i64 v)).setCell ⟨w.heap.size, 1, none⟩ (.int .i64 dh)).setCell ⟨w.heap.size, 2, none⟩ (.int .i64 dr)).setCell ⟨w.heap.size, 3, none⟩ (.int .i64 ds)).setCell ⟨w.heap.size, 4, none⟩ (.string di)).setCell ⟨w.heap.size, 5, none⟩ (.int .i64 mh)).setCell ⟨w.heap.size, 6, none⟩ (.int .i64 mr)).setCell ⟨w.heap.size, 7, none⟩ (.int .i64 ms)).setCell ⟨w.heap.size, 8, none⟩ (.string mi)).setCell ⟨w.heap.size, 9, none⟩ (.bool p)).setCell ⟨w.heap.size, 10, none⟩ (.slice qa o.length qc))).cell? ⟨nV, 4, none⟩ = some (.int .i64 v) := (HV8.out.grown KG1.out (fun e => by injection e with e; omega)).cell 4 rfl
    have n_0 : ((((((((((((w8.setCell ⟨w.heap.size, 0, none⟩ (.int .i64 v)).setCell ⟨w.heap.size, 1, none⟩ (.int .i64 dh)).setCell ⟨w.heap.size, 2, none⟩ (.int .i64 dr)).setCell ⟨w.heap.size, 3, none⟩ (.int .i64 ds)).setCell ⟨w.heap.size, 4, none⟩ (.string di)).setCell ⟨w.heap.size, 5, none⟩ (.int .i64 mh)).setCell ⟨w.heap.size, 6, none⟩ (.int .i64 mr)).setCell ⟨w.heap.size, 7, none⟩ (.int .i64 ms)).setCell ⟨w.heap.size, 8, none⟩ (.string mi)).setCell ⟨w.heap.size, 9, none⟩ (.bool p)).setCell ⟨w.heap.size, 10, none⟩ (.slice qa o.length qc))).cell? ⟨w.heap.size + 1, 0, none⟩ = some (.int .i64 0) := (HT8.out.grown KG1.out (fun e => by injection e with e; omega)).cell 0 rfl
    have n_1 : ((((((((((((w8.setCell ⟨w.heap.size, 0, none⟩ (.int .i64 v)).setCell ⟨w.heap.size, 1, none⟩ (.int .i64 dh)).setCell ⟨w.heap.size, 2, none⟩ (.int .i64 dr)).setCell ⟨w.heap.size, 3, none⟩ (.int .i64 ds)).setCell ⟨w.heap.size, 4, none⟩ (.string di)).setCell ⟨w.heap.size, 5, none⟩ (.int .i64 mh)).setCell ⟨w.heap.size, 6, none⟩ (.int .i64 mr)).setCell ⟨w.heap.size, 7, none⟩ (.int .i64 ms)).setCell ⟨w.heap.size, 8, none⟩ (.string mi)).setCell ⟨w.heap.size, 9, none⟩ (.bool p)).setCell ⟨w.heap.size, 10, none⟩ (.slice qa o.length qc))).cell? ⟨w.heap.size + 1, 1, none⟩ = some (.int .i64 0) := (HT8.out.grown KG1.out (fun e => by injection e with e; omega)).cell 1 rfl
    have n_2 : ((((((((((((w8.setCell ⟨w.heap.size, 0, none⟩ (.int .i64 v)).setCell ⟨w.heap.size, 1, none⟩ (.int .i64 dh)).setCell ⟨w.heap.size, 2, none⟩ (.int .i64 dr)).setCell ⟨w.heap.size, 3, none⟩ (.int .i64 ds)).setCell ⟨w.heap.size, 4, none⟩ (.string di)).setCell ⟨w.heap.size, 5, none⟩ (.int .i64 mh)).setCell ⟨w.heap.size, 6, none⟩ (.int .i64 mr)).setCell ⟨w.heap.size, 7, none⟩ (.int .i64 ms)).setCell ⟨w.heap.size, 8, none⟩ (.string mi)).setCell ⟨w.heap.size, 9, none⟩ (.bool p)).setCell ⟨w.heap.size, 10, none⟩ (.slice qa o.length qc))).cell? ⟨w.heap.size + 1, 2, none⟩ = some (.int .i64 0) := (HT8.out.grown KG1.out (fun e => by injection e with e; omega)).cell 2 rfl
    have n_3 : ((((((((((((w8.setCell ⟨w.heap.size, 0, none⟩ (.int .i64 v)).setCell ⟨w.heap.size, 1, none⟩ (.int .i64 dh)).setCell ⟨w.heap.size, 2, none⟩ (.int .i64 dr)).setCell ⟨w.heap.size, 3, none⟩ (.int .i64 ds)).setCell ⟨w.heap.size, 4, none⟩ (.string di)).setCell ⟨w.heap.size, 5, none⟩ (.int .i64 mh)).setCell ⟨w.heap.size, 6, none⟩ (.int .i64 mr)).setCell ⟨w.heap.size, 7, none⟩ (.int .i64 ms)).setCell ⟨w.heap.size, 8, none⟩ (.string mi)).setCell ⟨w.heap.size, 9, none⟩ (.bool p)).setCell ⟨w.heap.size, 10, none⟩ (.slice qa o.length qc))).cell? ⟨w.heap.size + 1, 3, none⟩ = some (.string ⟨#[]⟩) := (HT8.out.grown KG1.out (fun e => by injection e with e; omega)).cell 3 rfl
    have n_4 : ((((((((((((w8.setCell ⟨w.heap.size, 0, none⟩ (.int .i64 v)).setCell ⟨w.heap.size, 1, none⟩ (.int .i64 dh)).setCell ⟨w.heap.size, 2, none⟩ (.int .i64 dr)).setCell ⟨w.heap.size, 3, none⟩ (.int .i64 ds)).setCell ⟨w.heap.size, 4, none⟩ (.string di)).setCell ⟨w.heap.size, 5, none⟩ (.int .i64 mh)).setCell ⟨w.heap.size, 6, none⟩ (.int .i64 mr)).setCell ⟨w.heap.size, 7, none⟩ (.int .i64 ms)).setCell ⟨w.heap.size, 8, none⟩ (.string mi)).setCell ⟨w.heap.size, 9, none⟩ (.bool p)).setCell ⟨w.heap.size, 10, none⟩ (.slice qa o.length qc))).cell? ⟨w.heap.size + 1, 4, none⟩ = some (.int .i64 0) := (HT8.out.grown KG1.out (fun e => by injection e with e; omega)).cell 4 rfl
    have n_f := fun j => (HT8.out.grown KG1.out (fun e => by injection e with e; omega)).frozen j
    go_region_law (fail)
    all_goals
      clear cS_0_8 cS_1_8 cS_2_8 cS_3_8 cS_4_8 cS_5_8 cS_6_8 cS_7_8 cS_8_8 cS_9_8 cS_10_8 cV_0_8 cV_1_8 cV_2_8 cV_3_8 cV_4_8 cP_0_8 cP_1_8 cP_2_8 cP_3_8 cP_4_8 cP_5_8 cP_6_8 cP_7_8 cP_8_8 cP_9_8 cP_10_8 cT_0_8 cT_1_8 cT_2_8 cT_3_8 cT_4_8 zP_8 zT_8 m_0 m_1 m_2 m_3 m_4 n_0 n_1 n_2 n_3 n_4 n_f
      generalize ((((((((((((((((w8.setCell ⟨w.heap.size, 0, none⟩ (.int .i64 v)).setCell ⟨w.heap.size, 1, none⟩ (.int .i64 dh)).setCell ⟨w.heap.size, 2, none⟩ (.int .i64 dr)).setCell ⟨w.heap.size, 3, none⟩ (.int .i64 ds)).setCell ⟨w.heap.size, 4, none⟩ (.string di)).setCell ⟨w.heap.size, 5, none⟩ (.int .i64 mh)).setCell ⟨w.heap.size, 6, none⟩ (.int .i64 mr)).setCell ⟨w.heap.size, 7, none⟩ (.int .i64 ms)).setCell ⟨w.heap.size, 8, none⟩ (.string mi)).setCell ⟨w.heap.size, 9, none⟩ (.bool p)).setCell ⟨w.heap.size, 10, none⟩ (.slice qa o.length qc)).setCell ⟨(w.heap.size + 1), 0, none⟩ (.int .i64 yh)).setCell ⟨(w.heap.size + 1), 1, none⟩ (.int .i64 yr)).setCell ⟨(w.heap.size + 1), 2, none⟩ (.int .i64 ys)).setCell ⟨(w.heap.size + 1), 3, none⟩ (.string yi)).setCell ⟨(w.heap.size + 1), 4, none⟩ (.int .i64 v)).drew = wz at *
      have y0 := J1.out.cell 0 rfl
      have y1 := J1.out.cell 1 rfl
      have y2 := J1.out.cell 2 rfl
      have y3 := J1.out.cell 3 rfl
      have y4 := J1.out.cell 4 rfl
      have y5 := J1.out.cell 5 rfl
      have y6 := J1.out.cell 6 rfl
      have y7 := J1.out.cell 7 rfl
      have y8 := J1.out.cell 8 rfl
      have y9 := J1.out.cell 9 rfl
      have y10 := J1.out.cell 10 rfl
      have u0 := J2.out.cell 0 rfl
      have u1 := J2.out.cell 1 rfl
      have u2 := J2.out.cell 2 rfl
      have u3 := J2.out.cell 3 rfl
      have u4 := J2.out.cell 4 rfl
      go_wp2
      refine bodyPost_ret (v := .tuple #[.agg #[.int .i64 v, .int .i64 dh, .int .i64 dr, .int .i64 ds, .string di, .int .i64 mh, .int .i64 mr, .int .i64 ms, .string mi, .bool p, .slice qa o.length qc], .agg #[.int .i64 yh, .int .i64 yr, .int .i64 ys, .string yi, .int .i64 v]]) (by simp [results, Try.results19, go_sem, y0, y1, y2, y3, y4, y5, y6, y7, y8, y9, y10, u0, u1, u2, u3, u4]) rfl ⟨⟨v, ⟨dh, dr, ds, di⟩, ⟨mh, mr, ms, mi⟩, p, o⟩, qa, qc, ⟨yh, yr, ys, yi, v⟩, rfl, own_less JQ.out (by omega), HZ, JB.out⟩
  · skip
    have cS_0_7 := HS7.out.cell 0 rfl
    have cS_1_7 := HS7.out.cell 1 rfl
    have cS_2_7 := HS7.out.cell 2 rfl
    have cS_3_7 := HS7.out.cell 3 rfl
    have cS_4_7 := HS7.out.cell 4 rfl
    have cS_5_7 := HS7.out.cell 5 rfl
    have cS_6_7 := HS7.out.cell 6 rfl
    have cS_7_7 := HS7.out.cell 7 rfl
    have cS_8_7 := HS7.out.cell 8 rfl
    have cS_9_7 := HS7.out.cell 9 rfl
    have cS_10_7 := HS7.out.cell 10 rfl
    have cV_0_7 := HV7.out.cell 0 rfl
    have cV_1_7 := HV7.out.cell 1 rfl
    have cV_2_7 := HV7.out.cell 2 rfl
    have cV_3_7 := HV7.out.cell 3 rfl
    have cV_4_7 := HV7.out.cell 4 rfl
    go_wp2_with fail
    have cP_0_7 := HP7.out.cell 0 rfl
    have cP_1_7 := HP7.out.cell 1 rfl
    have cP_2_7 := HP7.out.cell 2 rfl
    have cP_3_7 := HP7.out.cell 3 rfl
    have cP_4_7 := HP7.out.cell 4 rfl
    have cP_5_7 := HP7.out.cell 5 rfl
    have cP_6_7 := HP7.out.cell 6 rfl
    have cP_7_7 := HP7.out.cell 7 rfl
    have cP_8_7 := HP7.out.cell 8 rfl
    have cP_9_7 := HP7.out.cell 9 rfl
    have cP_10_7 := HP7.out.cell 10 rfl
    have cT_0_7 := HT7.out.cell 0 rfl
    have cT_1_7 := HT7.out.cell 1 rfl
    have cT_2_7 := HT7.out.cell 2 rfl
    have cT_3_7 := HT7.out.cell 3 rfl
    have cT_4_7 := HT7.out.cell 4 rfl
    have zP_7 := fun j => HP7.out.frozen j
    have zT_7 := fun j => HT7.out.frozen j
    have KG1 : Hid (w7.grownBy (((((((((((w7.setCell ⟨w.heap.size, 0, none⟩ (.int .i64 v)).setCell ⟨w.heap.size, 1, none⟩ (.int .i64 dh)).setCell ⟨w.heap.size, 2, none⟩ (.int .i64 dr)).setCell ⟨w.heap.size, 3, none⟩ (.int .i64 ds)).setCell ⟨w.heap.size, 4, none⟩ (.string di)).setCell ⟨w.heap.size, 5, none⟩ (.int .i64 mh)).setCell ⟨w.heap.size, 6, none⟩ (.int .i64 mr)).setCell ⟨w.heap.size, 7, none⟩ (.int .i64 ms)).setCell ⟨w.heap.size, 8, none⟩ (.string mi)).setCell ⟨w.heap.size, 9, none⟩ (.bool p)).setCell ⟨w.heap.size, 10, none⟩ (.slice qa o.length qc)) (some w.heap.size)) := grown_set (grown_set (grown_set (grown_set (grown_set (grown_set (grown_set (grown_set (grown_set (grown_set (grown_set (grown_refl _ _) _) _) _) _) _) _) _) _) _) _) _
    have KG2 : Hid ((((((((((((w7.setCell ⟨w.heap.size, 0, none⟩ (.int .i64 v)).setCell ⟨w.heap.size, 1, none⟩ (.int .i64 dh)).setCell ⟨w.heap.size, 2, none⟩ (.int .i64 dr)).setCell ⟨w.heap.size, 3, none⟩ (.int .i64 ds)).setCell ⟨w.heap.size, 4, none⟩ (.string di)).setCell ⟨w.heap.size, 5, none⟩ (.int .i64 mh)).setCell ⟨w.heap.size, 6, none⟩ (.int .i64 mr)).setCell ⟨w.heap.size, 7, none⟩ (.int .i64 ms)).setCell ⟨w.heap.size, 8, none⟩ (.string mi)).setCell ⟨w.heap.size, 9, none⟩ (.bool p)).setCell ⟨w.heap.size, 10, none⟩ (.slice qa o.length qc)).grownBy ((((((((((((((((w7.setCell ⟨w.heap.size, 0, none⟩ (.int .i64 v)).setCell ⟨w.heap.size, 1, none⟩ (.int .i64 dh)).setCell ⟨w.heap.size, 2, none⟩ (.int .i64 dr)).setCell ⟨w.heap.size, 3, none⟩ (.int .i64 ds)).setCell ⟨w.heap.size, 4, none⟩ (.string di)).setCell ⟨w.heap.size, 5, none⟩ (.int .i64 mh)).setCell ⟨w.heap.size, 6, none⟩ (.int .i64 mr)).setCell ⟨w.heap.size, 7, none⟩ (.int .i64 ms)).setCell ⟨w.heap.size, 8, none⟩ (.string mi)).setCell ⟨w.heap.size, 9, none⟩ (.bool p)).setCell ⟨w.heap.size, 10, none⟩ (.slice qa o.length qc)).setCell ⟨(w.heap.size + 1), 0, none⟩ (.int .i64 yh)).setCell ⟨(w.heap.size + 1), 1, none⟩ (.int .i64 yr)).setCell ⟨(w.heap.size + 1), 2, none⟩ (.int .i64 ys)).setCell ⟨(w.heap.size + 1), 3, none⟩ (.string yi)).setCell ⟨(w.heap.size + 1), 4, none⟩ (.int .i64 yv)) (some (w.heap.size + 1))) := grown_set (grown_set (grown_set (grown_set (grown_set (grown_refl _ _) _) _) _) _) _
    have K1 : Hid (Blk ((((((((((((((((w7.setCell ⟨w.heap.size, 0, none⟩ (.int .i64 v)).setCell ⟨w.heap.size, 1, none⟩ (.int .i64 dh)).setCell ⟨w.heap.size, 2, none⟩ (.int .i64 dr)).setCell ⟨w.heap.size, 3, none⟩ (.int .i64 ds)).setCell ⟨w.heap.size, 4, none⟩ (.string di)).setCell ⟨w.heap.size, 5, none⟩ (.int .i64 mh)).setCell ⟨w.heap.size, 6, none⟩ (.int .i64 mr)).setCell ⟨w.heap.size, 7, none⟩ (.int .i64 ms)).setCell ⟨w.heap.size, 8, none⟩ (.string mi)).setCell ⟨w.heap.size, 9, none⟩ (.bool p)).setCell ⟨w.heap.size, 10, none⟩ (.slice qa o.length qc)).setCell ⟨(w.heap.size + 1), 0, none⟩ (.int .i64 yh)).setCell ⟨(w.heap.size + 1), 1, none⟩ (.int .i64 yr)).setCell ⟨(w.heap.size + 1), 2, none⟩ (.int .i64 ys)).setCell ⟨(w.heap.size + 1), 3, none⟩ (.string yi)).setCell ⟨(w.heap.size + 1), 4, none⟩ (.int .i64 yv)) w.heap.size [.int .i64 v, .int .i64 dh, .int .i64 dr, .int .i64 ds, .string di, .int .i64 mh, .int .i64 mr, .int .i64 ms, .string mi, .bool p, .slice qa o.length qc] 29) := (show Blk (((((((((((w7.setCell ⟨w.heap.size, 0, none⟩ (.int .i64 v)).setCell ⟨w.heap.size, 1, none⟩ (.int .i64 dh)).setCell ⟨w.heap.size, 2, none⟩ (.int .i64 dr)).setCell ⟨w.heap.size, 3, none⟩ (.int .i64 ds)).setCell ⟨w.heap.size, 4, none⟩ (.string di)).setCell ⟨w.heap.size, 5, none⟩ (.int .i64 mh)).setCell ⟨w.heap.size, 6, none⟩ (.int .i64 mr)).setCell ⟨w.heap.size, 7, none⟩ (.int .i64 ms)).setCell ⟨w.heap.size, 8, none⟩ (.string mi)).setCell ⟨w.heap.size, 9, none⟩ (.bool p)).setCell ⟨w.heap.size, 10, none⟩ (.slice qa o.length qc)) w.heap.size [.int .i64 v, .int .i64 dh, .int .i64 dr, .int .i64 ds, .string di, .int .i64 mh, .int .i64 mr, .int .i64 ms, .string mi, .bool p, .slice qa o.length qc] 29 from (((((((((((HP7.out.set 0 (.int .i64 v)).set 1 (.int .i64 dh)).set 2 (.int .i64 dr)).set 3 (.int .i64 ds)).set 4 (.string di)).set 5 (.int .i64 mh)).set 6 (.int .i64 mr)).set 7 (.int .i64 ms)).set 8 (.string mi)).set 9 (.bool p)).set 10 (.slice qa o.length qc))).grown KG2.out (fun e => by injection e with e; omega)
    have K2 : Hid (Blk ((((((((((((((((w7.setCell ⟨w.heap.size, 0, none⟩ (.int .i64 v)).setCell ⟨w.heap.size, 1, none⟩ (.int .i64 dh)).setCell ⟨w.heap.size, 2, none⟩ (.int .i64 dr)).setCell ⟨w.heap.size, 3, none⟩ (.int .i64 ds)).setCell ⟨w.heap.size, 4, none⟩ (.string di)).setCell ⟨w.heap.size, 5, none⟩ (.int .i64 mh)).setCell ⟨w.heap.size, 6, none⟩ (.int .i64 mr)).setCell ⟨w.heap.size, 7, none⟩ (.int .i64 ms)).setCell ⟨w.heap.size, 8, none⟩ (.string mi)).setCell ⟨w.heap.size, 9, none⟩ (.bool p)).setCell ⟨w.heap.size, 10, none⟩ (.slice qa o.length qc)).setCell ⟨(w.heap.size + 1), 0, none⟩ (.int .i64 yh)).setCell ⟨(w.heap.size + 1), 1, none⟩ (.int .i64 yr)).setCell ⟨(w.heap.size + 1), 2, none⟩ (.int .i64 ys)).setCell ⟨(w.heap.size + 1), 3, none⟩ (.string yi)).setCell ⟨(w.heap.size + 1), 4, none⟩ (.int .i64 yv)) (w.heap.size + 1) [.int .i64 yh, .int .i64 yr, .int .i64 ys, .string yi, .int .i64 yv] 31) := ((((((HT7.out.grown KG1.out (fun e => by injection e with e; omega)).set 0 (.int .i64 yh)).set 1 (.int .i64 yr)).set 2 (.int .i64 ys)).set 3 (.string yi)).set 4 (.int .i64 yv))
    have KB : Hid (Below w.heap.size w ((((((((((((((((w7.setCell ⟨w.heap.size, 0, none⟩ (.int .i64 v)).setCell ⟨w.heap.size, 1, none⟩ (.int .i64 dh)).setCell ⟨w.heap.size, 2, none⟩ (.int .i64 dr)).setCell ⟨w.heap.size, 3, none⟩ (.int .i64 ds)).setCell ⟨w.heap.size, 4, none⟩ (.string di)).setCell ⟨w.heap.size, 5, none⟩ (.int .i64 mh)).setCell ⟨w.heap.size, 6, none⟩ (.int .i64 mr)).setCell ⟨w.heap.size, 7, none⟩ (.int .i64 ms)).setCell ⟨w.heap.size, 8, none⟩ (.string mi)).setCell ⟨w.heap.size, 9, none⟩ (.bool p)).setCell ⟨w.heap.size, 10, none⟩ (.slice qa o.length qc)).setCell ⟨(w.heap.size + 1), 0, none⟩ (.int .i64 yh)).setCell ⟨(w.heap.size + 1), 1, none⟩ (.int .i64 yr)).setCell ⟨(w.heap.size + 1), 2, none⟩ (.int .i64 ys)).setCell ⟨(w.heap.size + 1), 3, none⟩ (.string yi)).setCell ⟨(w.heap.size + 1), 4, none⟩ (.int .i64 yv))) := (HB7.out.grown KG1.out HB7.out.size (fun j e => by injection e with e; omega)).grown KG2.out (Nat.le_trans HB7.out.size KG1.out.size) (fun j e => by injection e with e; omega)
    have KQ : Hid (OwnY ((((((((((((((((w7.setCell ⟨w.heap.size, 0, none⟩ (.int .i64 v)).setCell ⟨w.heap.size, 1, none⟩ (.int .i64 dh)).setCell ⟨w.heap.size, 2, none⟩ (.int .i64 dr)).setCell ⟨w.heap.size, 3, none⟩ (.int .i64 ds)).setCell ⟨w.heap.size, 4, none⟩ (.string di)).setCell ⟨w.heap.size, 5, none⟩ (.int .i64 mh)).setCell ⟨w.heap.size, 6, none⟩ (.int .i64 mr)).setCell ⟨w.heap.size, 7, none⟩ (.int .i64 ms)).setCell ⟨w.heap.size, 8, none⟩ (.string mi)).setCell ⟨w.heap.size, 9, none⟩ (.bool p)).setCell ⟨w.heap.size, 10, none⟩ (.slice qa o.length qc)).setCell ⟨(w.heap.size + 1), 0, none⟩ (.int .i64 yh)).setCell ⟨(w.heap.size + 1), 1, none⟩ (.int .i64 yr)).setCell ⟨(w.heap.size + 1), 2, none⟩ (.int .i64 ys)).setCell ⟨(w.heap.size + 1), 3, none⟩ (.string yi)).setCell ⟨(w.heap.size + 1), 4, none⟩ (.int .i64 yv)) NB (.slice qa o.length qc) o) := own_still (own_still HQ7.out KG1.out (fun j e => by injection e with e; omega)) KG2.out (fun j e => by injection e with e; omega)
    have hDr := (Below.refl ((((((((((((((((w7.setCell ⟨w.heap.size, 0, none⟩ (.int .i64 v)).setCell ⟨w.heap.size, 1, none⟩ (.int .i64 dh)).setCell ⟨w.heap.size, 2, none⟩ (.int .i64 dr)).setCell ⟨w.heap.size, 3, none⟩ (.int .i64 ds)).setCell ⟨w.heap.size, 4, none⟩ (.string di)).setCell ⟨w.heap.size, 5, none⟩ (.int .i64 mh)).setCell ⟨w.heap.size, 6, none⟩ (.int .i64 mr)).setCell ⟨w.heap.size, 7, none⟩ (.int .i64 ms)).setCell ⟨w.heap.size, 8, none⟩ (.string mi)).setCell ⟨w.heap.size, 9, none⟩ (.bool p)).setCell ⟨w.heap.size, 10, none⟩ (.slice qa o.length qc)).setCell ⟨(w.heap.size + 1), 0, none⟩ (.int .i64 yh)).setCell ⟨(w.heap.size + 1), 1, none⟩ (.int .i64 yr)).setCell ⟨(w.heap.size + 1), 2, none⟩ (.int .i64 ys)).setCell ⟨(w.heap.size + 1), 3, none⟩ (.string yi)).setCell ⟨(w.heap.size + 1), 4, none⟩ (.int .i64 yv)).heap.size ((((((((((((((((w7.setCell ⟨w.heap.size, 0, none⟩ (.int .i64 v)).setCell ⟨w.heap.size, 1, none⟩ (.int .i64 dh)).setCell ⟨w.heap.size, 2, none⟩ (.int .i64 dr)).setCell ⟨w.heap.size, 3, none⟩ (.int .i64 ds)).setCell ⟨w.heap.size, 4, none⟩ (.string di)).setCell ⟨w.heap.size, 5, none⟩ (.int .i64 mh)).setCell ⟨w.heap.size, 6, none⟩ (.int .i64 mr)).setCell ⟨w.heap.size, 7, none⟩ (.int .i64 ms)).setCell ⟨w.heap.size, 8, none⟩ (.string mi)).setCell ⟨w.heap.size, 9, none⟩ (.bool p)).setCell ⟨w.heap.size, 10, none⟩ (.slice qa o.length qc)).setCell ⟨(w.heap.size + 1), 0, none⟩ (.int .i64 yh)).setCell ⟨(w.heap.size + 1), 1, none⟩ (.int .i64 yr)).setCell ⟨(w.heap.size + 1), 2, none⟩ (.int .i64 ys)).setCell ⟨(w.heap.size + 1), 3, none⟩ (.string yi)).setCell ⟨(w.heap.size + 1), 4, none⟩ (.int .i64 yv))).drew
    have J1 : Hid (Blk ((((((((((((((((w7.setCell ⟨w.heap.size, 0, none⟩ (.int .i64 v)).setCell ⟨w.heap.size, 1, none⟩ (.int .i64 dh)).setCell ⟨w.heap.size, 2, none⟩ (.int .i64 dr)).setCell ⟨w.heap.size, 3, none⟩ (.int .i64 ds)).setCell ⟨w.heap.size, 4, none⟩ (.string di)).setCell ⟨w.heap.size, 5, none⟩ (.int .i64 mh)).setCell ⟨w.heap.size, 6, none⟩ (.int .i64 mr)).setCell ⟨w.heap.size, 7, none⟩ (.int .i64 ms)).setCell ⟨w.heap.size, 8, none⟩ (.string mi)).setCell ⟨w.heap.size, 9, none⟩ (.bool p)).setCell ⟨w.heap.size, 10, none⟩ (.slice qa o.length qc)).setCell ⟨(w.heap.size + 1), 0, none⟩ (.int .i64 yh)).setCell ⟨(w.heap.size + 1), 1, none⟩ (.int .i64 yr)).setCell ⟨(w.heap.size + 1), 2, none⟩ (.int .i64 ys)).setCell ⟨(w.heap.size + 1), 3, none⟩ (.string yi)).setCell ⟨(w.heap.size + 1), 4, none⟩ (.int .i64 yv)).drew w.heap.size [.int .i64 v, .int .i64 dh, .int .i64 dr, .int .i64 ds, .string di, .int .i64 mh, .int .i64 mr, .int .i64 ms, .string mi, .bool p, .slice qa o.length qc] 29) := K1.out.below hDr K1.out.lt
    have J2 : Hid (Blk ((((((((((((((((w7.setCell ⟨w.heap.size, 0, none⟩ (.int .i64 v)).setCell ⟨w.heap.size, 1, none⟩ (.int .i64 dh)).setCell ⟨w.heap.size, 2, none⟩ (.int .i64 dr)).setCell ⟨w.heap.size, 3, none⟩ (.int .i64 ds)).setCell ⟨w.heap.size, 4, none⟩ (.string di)).setCell ⟨w.heap.size, 5, none⟩ (.int .i64 mh)).setCell ⟨w.heap.size, 6, none⟩ (.int .i64 mr)).setCell ⟨w.heap.size, 7, none⟩ (.int .i64 ms)).setCell ⟨w.heap.size, 8, none⟩ (.string mi)).setCell ⟨w.heap.size, 9, none⟩ (.bool p)).setCell ⟨w.heap.size, 10, none⟩ (.slice qa o.length qc)).setCell ⟨(w.heap.size + 1), 0, none⟩ (.int .i64 yh)).setCell ⟨(w.heap.size + 1), 1, none⟩ (.int .i64 yr)).setCell ⟨(w.heap.size + 1), 2, none⟩ (.int .i64 ys)).setCell ⟨(w.heap.size + 1), 3, none⟩ (.string yi)).setCell ⟨(w.heap.size + 1), 4, none⟩ (.int .i64 yv)).drew (w.heap.size + 1) [.int .i64 yh, .int .i64 yr, .int .i64 ys, .string yi, .int .i64 yv] 31) := K2.out.below hDr K2.out.lt
    have JB : Hid (Below w.heap.size w ((((((((((((((((w7.setCell ⟨w.heap.size, 0, none⟩ (.int .i64 v)).setCell ⟨w.heap.size, 1, none⟩ (.int .i64 dh)).setCell ⟨w.heap.size, 2, none⟩ (.int .i64 dr)).setCell ⟨w.heap.size, 3, none⟩ (.int .i64 ds)).setCell ⟨w.heap.size, 4, none⟩ (.string di)).setCell ⟨w.heap.size, 5, none⟩ (.int .i64 mh)).setCell ⟨w.heap.size, 6, none⟩ (.int .i64 mr)).setCell ⟨w.heap.size, 7, none⟩ (.int .i64 ms)).setCell ⟨w.heap.size, 8, none⟩ (.string mi)).setCell ⟨w.heap.size, 9, none⟩ (.bool p)).setCell ⟨w.heap.size, 10, none⟩ (.slice qa o.length qc)).setCell ⟨(w.heap.size + 1), 0, none⟩ (.int .i64 yh)).setCell ⟨(w.heap.size + 1), 1, none⟩ (.int .i64 yr)).setCell ⟨(w.heap.size + 1), 2, none⟩ (.int .i64 ys)).setCell ⟨(w.heap.size + 1), 3, none⟩ (.string yi)).setCell ⟨(w.heap.size + 1), 4, none⟩ (.int .i64 yv)).drew) := KB.out.trans (hDr.mono KB.out.size)
    have JQ : Hid (OwnY ((((((((((((((((w7.setCell ⟨w.heap.size, 0, none⟩ (.int .i64 v)).setCell ⟨w.heap.size, 1, none⟩ (.int .i64 dh)).setCell ⟨w.heap.size, 2, none⟩ (.int .i64 dr)).setCell ⟨w.heap.size, 3, none⟩ (.int .i64 ds)).setCell ⟨w.heap.size, 4, none⟩ (.string di)).setCell ⟨w.heap.size, 5, none⟩ (.int .i64 mh)).setCell ⟨w.heap.size, 6, none⟩ (.int .i64 mr)).setCell ⟨w.heap.size, 7, none⟩ (.int .i64 ms)).setCell ⟨w.heap.size, 8, none⟩ (.string mi)).setCell ⟨w.heap.size, 9, none⟩ (.bool p)).setCell ⟨w.heap.size, 10, none⟩ (.slice qa o.length qc)).setCell ⟨(w.heap.size + 1), 0, none⟩ (.int .i64 yh)).setCell ⟨(w.heap.size + 1), 1, none⟩ (.int .i64 yr)).setCell ⟨(w.heap.size + 1), 2, none⟩ (.int .i64 ys)).setCell ⟨(w.heap.size + 1), 3, none⟩ (.string yi)).setCell ⟨(w.heap.size + 1), 4, none⟩ (.int .i64 yv)).drew NB (.slice qa o.length qc) o) := own_keep KQ.out hDr
    clear K1 K2 KB hDr KQ
    have m_0 : ((((((((((((w7.setCell ⟨w.heap.size, 0, none⟩ (.int .i64 v)).setCell ⟨w.heap.size, 1, none⟩ (.int .i64 dh)).setCell ⟨w.heap.size, 2, none⟩ (.int .i64 dr)).setCell ⟨w.heap.size, 3, none⟩ (.int .i64 ds)).setCell ⟨w.heap.size, 4, none⟩ (.string di)).setCell ⟨w.heap.size, 5, none⟩ (.int .i64 mh)).setCell ⟨w.heap.size, 6, none⟩ (.int .i64 mr)).setCell ⟨w.heap.size, 7, none⟩ (.int .i64 ms)).setCell ⟨w.heap.size, 8, none⟩ (.string mi)).setCell ⟨w.heap.size, 9, none⟩ (.bool p)).setCell ⟨w.heap.size, 10, none⟩ (.slice qa o.length qc))).cell? ⟨nV, 0, none⟩ = some (.int .i64 yh) := (HV7.out.grown KG1.out (fun e => by injection e with e; omega)).cell 0 rfl
    have m_1 : ((((((((((((w7.setCell ⟨w.heap.size, 0, none⟩ (.int .i64 v)).setCell ⟨w.heap.size, 1, none⟩ (.int .i64 dh)).setCell ⟨w.heap.size, 2, none⟩ (.int .i64 dr)).setCell ⟨w.heap.size, 3, none⟩ (.int .i64 ds)).setCell ⟨w.heap.size, 4, none⟩ (.string di)).setCell ⟨w.heap.size, 5, none⟩ (.int .i64 mh)).setCell ⟨w.heap.size, 6, none⟩ (.int .i64 mr)).setCell ⟨w.heap.size, 7, none⟩ (.int .i64 ms)).setCell ⟨w.heap.size, 8, none⟩ (.string mi)).setCell ⟨w.heap.size, 9, none⟩ (.bool p)).setCell ⟨w.heap.size, 10, none⟩ (.slice qa o.length qc))).cell? ⟨nV, 1, none⟩ = some (.int .i64 yr) := (HV7.out.grown KG1.out (fun e => by injection e with e; omega)).cell 1 rfl
    have m_2 : ((((((((((((w7.setCell ⟨w.heap.size, 0, none⟩ (.int .i64 v)).setCell ⟨w.heap.size, 1, none⟩ (.int .i64 dh)).setCell ⟨w.heap.size, 2, none⟩ (.int .i64 dr)).setCell ⟨w.heap.size, 3, none⟩ (.int .i64 ds)).setCell ⟨w.heap.size, 4, none⟩ (.string di)).setCell ⟨w.heap.size, 5, none⟩ (.int .i64 mh)).setCell ⟨w.heap.size, 6, none⟩ (.int .i64 mr)).setCell ⟨w.heap.size, 7, none⟩ (.int .i64 ms)).setCell ⟨w.heap.size, 8, none⟩ (.string mi)).setCell ⟨w.heap.size, 9, none⟩ (.bool p)).setCell ⟨w.heap.size, 10, none⟩ (.slice qa o.length qc))).cell? ⟨nV, 2, none⟩ = some (.int .i64 ys) := (HV7.out.grown KG1.out (fun e => by injection e with e; omega)).cell 2 rfl
    have m_3 : ((((((((((((w7.setCell ⟨w.heap.size, 0, none⟩ (.int .i64 v)).setCell ⟨w.heap.size, 1, none⟩ (.int .i64 dh)).setCell ⟨w.heap.size, 2, none⟩ (.int .i64 dr)).setCell ⟨w.heap.size, 3, none⟩ (.int .i64 ds)).setCell ⟨w.heap.size, 4, none⟩ (.string di)).setCell ⟨w.heap.size, 5, none⟩ (.int .i64 mh)).setCell ⟨w.heap.size, 6, none⟩ (.int .i64 mr)).setCell ⟨w.heap.size, 7, none⟩ (.int .i64 ms)).setCell ⟨w.heap.size, 8, none⟩ (.string mi)).setCell ⟨w.heap.size, 9, none⟩ (.bool p)).setCell ⟨w.heap.size, 10, none⟩ (.slice qa o.length qc))).cell? ⟨nV, 3, none⟩ = some (.string yi) := (HV7.out.grown KG1.out (fun e => by injection e with e; omega)).cell 3 rfl
    have m_4 : ((((((((((((w7.setCell ⟨w.heap.size, 0, none⟩ (.int .i64 v)).setCell ⟨w.heap.size, 1, none⟩ (.int .i64 dh)).setCell ⟨w.heap.size, 2, none⟩ (.int .i64 dr)).setCell ⟨w.heap.size, 3, none⟩ (.int .i64 ds)).setCell ⟨w.heap.size, 4, none⟩ (.string di)).setCell ⟨w.heap.size, 5, none⟩ (.int .i64 mh)).setCell ⟨w.heap.size, 6, none⟩ (.int .i64 mr)).setCell ⟨w.heap.size, 7, none⟩ (.int .i64 ms)).setCell ⟨w.heap.size, 8, none⟩ (.string mi)).setCell ⟨w.heap.size, 9, none⟩ (.bool p)).setCell ⟨w.heap.size, 10, none⟩ (.slice qa o.length qc))).cell? ⟨nV, 4, none⟩ = some (.int .i64 yv) := (HV7.out.grown KG1.out (fun e => by injection e with e; omega)).cell 4 rfl
    have n_0 : ((((((((((((w7.setCell ⟨w.heap.size, 0, none⟩ (.int .i64 v)).setCell ⟨w.heap.size, 1, none⟩ (.int .i64 dh)).setCell ⟨w.heap.size, 2, none⟩ (.int .i64 dr)).setCell ⟨w.heap.size, 3, none⟩ (.int .i64 ds)).setCell ⟨w.heap.size, 4, none⟩ (.string di)).setCell ⟨w.heap.size, 5, none⟩ (.int .i64 mh)).setCell ⟨w.heap.size, 6, none⟩ (.int .i64 mr)).setCell ⟨w.heap.size, 7, none⟩ (.int .i64 ms)).setCell ⟨w.heap.size, 8, none⟩ (.string mi)).setCell ⟨w.heap.size, 9, none⟩ (.bool p)).setCell ⟨w.heap.size, 10, none⟩ (.slice qa o.length qc))).cell? ⟨w.heap.size + 1, 0, none⟩ = some (.int .i64 0) := (HT7.out.grown KG1.out (fun e => by injection e with e; omega)).cell 0 rfl
    have n_1 : ((((((((((((w7.setCell ⟨w.heap.size, 0, none⟩ (.int .i64 v)).setCell ⟨w.heap.size, 1, none⟩ (.int .i64 dh)).setCell ⟨w.heap.size, 2, none⟩ (.int .i64 dr)).setCell ⟨w.heap.size, 3, none⟩ (.int .i64 ds)).setCell ⟨w.heap.size, 4, none⟩ (.string di)).setCell ⟨w.heap.size, 5, none⟩ (.int .i64 mh)).setCell ⟨w.heap.size, 6, none⟩ (.int .i64 mr)).setCell ⟨w.heap.size, 7, none⟩ (.int .i64 ms)).setCell ⟨w.heap.size, 8, none⟩ (.string mi)).setCell ⟨w.heap.size, 9, none⟩ (.bool p)).setCell ⟨w.heap.size, 10, none⟩ (.slice qa o.length qc))).cell? ⟨w.heap.size + 1, 1, none⟩ = some (.int .i64 0) := (HT7.out.grown KG1.out (fun e => by injection e with e; omega)).cell 1 rfl
    have n_2 : ((((((((((((w7.setCell ⟨w.heap.size, 0, none⟩ (.int .i64 v)).setCell ⟨w.heap.size, 1, none⟩ (.int .i64 dh)).setCell ⟨w.heap.size, 2, none⟩ (.int .i64 dr)).setCell ⟨w.heap.size, 3, none⟩ (.int .i64 ds)).setCell ⟨w.heap.size, 4, none⟩ (.string di)).setCell ⟨w.heap.size, 5, none⟩ (.int .i64 mh)).setCell ⟨w.heap.size, 6, none⟩ (.int .i64 mr)).setCell ⟨w.heap.size, 7, none⟩ (.int .i64 ms)).setCell ⟨w.heap.size, 8, none⟩ (.string mi)).setCell ⟨w.heap.size, 9, none⟩ (.bool p)).setCell ⟨w.heap.size, 10, none⟩ (.slice qa o.length qc))).cell? ⟨w.heap.size + 1, 2, none⟩ = some (.int .i64 0) := (HT7.out.grown KG1.out (fun e => by injection e with e; omega)).cell 2 rfl
    have n_3 : ((((((((((((w7.setCell ⟨w.heap.size, 0, none⟩ (.int .i64 v)).setCell ⟨w.heap.size, 1, none⟩ (.int .i64 dh)).setCell ⟨w.heap.size, 2, none⟩ (.int .i64 dr)).setCell ⟨w.heap.size, 3, none⟩ (.int .i64 ds)).setCell ⟨w.heap.size, 4, none⟩ (.string di)).setCell ⟨w.heap.size, 5, none⟩ (.int .i64 mh)).setCell ⟨w.heap.size, 6, none⟩ (.int .i64 mr)).setCell ⟨w.heap.size, 7, none⟩ (.int .i64 ms)).setCell ⟨w.heap.size, 8, none⟩ (.string mi)).setCell ⟨w.heap.size, 9, none⟩ (.bool p)).setCell ⟨w.heap.size, 10, none⟩ (.slice qa o.length qc))).cell? ⟨w.heap.size + 1, 3, none⟩ = some (.string ⟨#[]⟩) := (HT7.out.grown KG1.out (fun e => by injection e with e; omega)).cell 3 rfl
    have n_4 : ((((((((((((w7.setCell ⟨w.heap.size, 0, none⟩ (.int .i64 v)).setCell ⟨w.heap.size, 1, none⟩ (.int .i64 dh)).setCell ⟨w.heap.size, 2, none⟩ (.int .i64 dr)).setCell ⟨w.heap.size, 3, none⟩ (.int .i64 ds)).setCell ⟨w.heap.size, 4, none⟩ (.string di)).setCell ⟨w.heap.size, 5, none⟩ (.int .i64 mh)).setCell ⟨w.heap.size, 6, none⟩ (.int .i64 mr)).setCell ⟨w.heap.size, 7, none⟩ (.int .i64 ms)).setCell ⟨w.heap.size, 8, none⟩ (.string mi)).setCell ⟨w.heap.size, 9, none⟩ (.bool p)).setCell ⟨w.heap.size, 10, none⟩ (.slice qa o.length qc))).cell? ⟨w.heap.size + 1, 4, none⟩ = some (.int .i64 0) := (HT7.out.grown KG1.out (fun e => by injection e with e; omega)).cell 4 rfl
    have n_f := fun j => (HT7.out.grown KG1.out (fun e => by injection e with e; omega)).frozen j
    go_region_law (fail)
    all_goals
      clear cS_0_7 cS_1_7 cS_2_7 cS_3_7 cS_4_7 cS_5_7 cS_6_7 cS_7_7 cS_8_7 cS_9_7 cS_10_7 cV_0_7 cV_1_7 cV_2_7 cV_3_7 cV_4_7 cP_0_7 cP_1_7 cP_2_7 cP_3_7 cP_4_7 cP_5_7 cP_6_7 cP_7_7 cP_8_7 cP_9_7 cP_10_7 cT_0_7 cT_1_7 cT_2_7 cT_3_7 cT_4_7 zP_7 zT_7 m_0 m_1 m_2 m_3 m_4 n_0 n_1 n_2 n_3 n_4 n_f
      generalize ((((((((((((((((w7.setCell ⟨w.heap.size, 0, none⟩ (.int .i64 v)).setCell ⟨w.heap.size, 1, none⟩ (.int .i64 dh)).setCell ⟨w.heap.size, 2, none⟩ (.int .i64 dr)).setCell ⟨w.heap.size, 3, none⟩ (.int .i64 ds)).setCell ⟨w.heap.size, 4, none⟩ (.string di)).setCell ⟨w.heap.size, 5, none⟩ (.int .i64 mh)).setCell ⟨w.heap.size, 6, none⟩ (.int .i64 mr)).setCell ⟨w.heap.size, 7, none⟩ (.int .i64 ms)).setCell ⟨w.heap.size, 8, none⟩ (.string mi)).setCell ⟨w.heap.size, 9, none⟩ (.bool p)).setCell ⟨w.heap.size, 10, none⟩ (.slice qa o.length qc)).setCell ⟨(w.heap.size + 1), 0, none⟩ (.int .i64 yh)).setCell ⟨(w.heap.size + 1), 1, none⟩ (.int .i64 yr)).setCell ⟨(w.heap.size + 1), 2, none⟩ (.int .i64 ys)).setCell ⟨(w.heap.size + 1), 3, none⟩ (.string yi)).setCell ⟨(w.heap.size + 1), 4, none⟩ (.int .i64 yv)).drew = wz at *
      have y0 := J1.out.cell 0 rfl
      have y1 := J1.out.cell 1 rfl
      have y2 := J1.out.cell 2 rfl
      have y3 := J1.out.cell 3 rfl
      have y4 := J1.out.cell 4 rfl
      have y5 := J1.out.cell 5 rfl
      have y6 := J1.out.cell 6 rfl
      have y7 := J1.out.cell 7 rfl
      have y8 := J1.out.cell 8 rfl
      have y9 := J1.out.cell 9 rfl
      have y10 := J1.out.cell 10 rfl
      have u0 := J2.out.cell 0 rfl
      have u1 := J2.out.cell 1 rfl
      have u2 := J2.out.cell 2 rfl
      have u3 := J2.out.cell 3 rfl
      have u4 := J2.out.cell 4 rfl
      go_wp2
      refine bodyPost_ret (v := .tuple #[.agg #[.int .i64 v, .int .i64 dh, .int .i64 dr, .int .i64 ds, .string di, .int .i64 mh, .int .i64 mr, .int .i64 ms, .string mi, .bool p, .slice qa o.length qc], .agg #[.int .i64 yh, .int .i64 yr, .int .i64 ys, .string yi, .int .i64 yv]]) (by simp [results, Try.results19, go_sem, y0, y1, y2, y3, y4, y5, y6, y7, y8, y9, y10, u0, u1, u2, u3, u4]) rfl ⟨⟨v, ⟨dh, dr, ds, di⟩, ⟨mh, mr, ms, mi⟩, p, o⟩, qa, qc, ⟨yh, yr, ys, yi, yv⟩, rfl, own_less JQ.out (by omega), HZ, JB.out⟩
set_option maxHeartbeats 12800000 in
set_option maxRecDepth 100000 in
theorem draw_may (a : Option Addr) (L : List UInt8) (cap : Nat) (w : World) (hl : CodeAt w w.heap.size a L) (hlen : L.length ≤ 1048576) :
    Calls Try.prog 20 #[.slice a L.length cap] w fun e w' => ∃ (z : Gt) (y : Vt), e = .returned (.tuple #[gV z, tV y]) ∧ Below w.heap.size w w' := by
  obtain ⟨W0, hW0⟩ : ∃ W, (w.alloc (.cells #[.int .i64 0, .int .i64 0, .int .i64 0, .string ⟨#[]⟩] 26)).alloc (.cells #[.int .i64 0, .int .i64 0, .int .i64 0, .string ⟨#[]⟩, .int .i64 0] 31) = W := ⟨_, rfl⟩
  have HP0 : Hid (Blk W0 w.heap.size [.int .i64 0, .int .i64 0, .int .i64 0, .string ⟨#[]⟩] 26) := by
    rw [← hW0]
    have hnew := blk_new (w) [.int .i64 0, .int .i64 0, .int .i64 0, .string ⟨#[]⟩] 26
    exact (hnew.alloc _)
  have HT0 : Hid (Blk W0 (w.heap.size + 1) [.int .i64 0, .int .i64 0, .int .i64 0, .string ⟨#[]⟩, .int .i64 0] 31) := by
    rw [← hW0]
    have hnew := blk_new (w.alloc (.cells #[.int .i64 0, .int .i64 0, .int .i64 0, .string ⟨#[]⟩] 26)) [.int .i64 0, .int .i64 0, .int .i64 0, .string ⟨#[]⟩, .int .i64 0] 31
    rw [show (w.alloc (.cells #[.int .i64 0, .int .i64 0, .int .i64 0, .string ⟨#[]⟩] 26)).heap.size = w.heap.size + 1 from by simp] at hnew
    exact hnew
  have HB0 : Hid (Below w.heap.size w W0) := by rw [← hW0]; exact ((Below.refl w.heap.size w).alloc (Nat.le_refl _) _).alloc (by simp; try omega) _
  go_enter Try.func20, Try.ntmps20
  have HL0 : Hid (CodeAt W0 W0.heap.size a L) := code_below hl HB0.out
  clear hl
  obtain ⟨g, hg⟩ : ∃ g, W0.heap.size = g := ⟨_, rfl⟩
  have hgP : w.heap.size < g := by rw [← hg]; exact HP0.out.lt
  have hgT : (w.heap.size + 1) < g := by rw [← hg]; exact HT0.out.lt
  go_wp2_with fail
  clear hW0
  refine (new_any a L cap _ HL0.out hlen).mono ?_
  rintro e w1 ⟨rfl, hwn⟩
  have bb : Below W0.heap.size W0 w1 := by rw [hwn]; exact below_one _ _
  have HD0 : Hid (DS w1 g (g + 1)) := by have h := ds_at (cap := cap) HL0.out hlen (newF L); rw [← hwn, hg] at h; exact h
  rw [hg]
  clear hg hwn HL0
  have HP1 : Hid (Blk w1 w.heap.size [.int .i64 0, .int .i64 0, .int .i64 0, .string ⟨#[]⟩] 26) := HP0.out.below bb HP0.out.lt
  have HT1 : Hid (Blk w1 (w.heap.size + 1) [.int .i64 0, .int .i64 0, .int .i64 0, .string ⟨#[]⟩, .int .i64 0] 31) := HT0.out.below bb HT0.out.lt
  have HB1 : Hid (Below w.heap.size w w1) := HB0.out.trans (bb.mono HB0.out.size)
  clear HP0 HT0 HB0
  clear bb
  go_wp2_with fail
  refine (vote_d g (g + 1) _ HD0.out (show g + 1 ≤ _ from HD0.out.lt')).mono ?_
  rintro e w2 ⟨y, rfl, hyD, HDn, HGn⟩
  have HP2 : Hid (Blk w2 w.heap.size [.int .i64 0, .int .i64 0, .int .i64 0, .string ⟨#[]⟩] 26) := HP1.out.grown HGn.out (fun e => by injection e with e; omega)
  have HT2 : Hid (Blk w2 (w.heap.size + 1) [.int .i64 0, .int .i64 0, .int .i64 0, .string ⟨#[]⟩, .int .i64 0] 31) := HT1.out.grown HGn.out (fun e => by injection e with e; omega)
  have HD2 : Hid (DS w2 g (g + 1)) := HDn
  have HB2 : Hid (Below w.heap.size w w2) := HB1.out.grown HGn.out HB1.out.size (fun j e => by injection e with e; omega)
  clear HGn HDn HP1 HT1 HB1 HD0
  clear hyD
  obtain ⟨yh, yr, ys, yi, yv⟩ := y
  unfold tV
  simp only
  have kO : ∀ W, Calls Try.prog 41 #[.agg #[.int .i64 yh, .int .i64 yr, .int .i64 ys, .string yi, .int .i64 yv]] W fun e w' => e = .returned (.agg #[.int .i64 yh, .int .i64 yr, .int .i64 ys, .string yi]) ∧ Below W.heap.size W w' := fun W => spec_ofv ⟨yh, yr, ys, yi, yv⟩ W
  go_wp2_with fail
  refine (kO _).mono ?_
  rintro e w3 ⟨rfl, bb⟩
  have HP3 : Hid (Blk w3 w.heap.size [.int .i64 0, .int .i64 0, .int .i64 0, .string ⟨#[]⟩] 26) := HP2.out.below bb HP2.out.lt
  have HT3 : Hid (Blk w3 (w.heap.size + 1) [.int .i64 0, .int .i64 0, .int .i64 0, .string ⟨#[]⟩, .int .i64 0] 31) := HT2.out.below bb HT2.out.lt
  have HD3 : Hid (DS w3 g (g + 1)) := HD2.out.below (bb.mono (show g + 1 ≤ _ from HD2.out.lt'))
  have HB3 : Hid (Below w.heap.size w w3) := HB2.out.trans (bb.mono HB2.out.size)
  clear HP2 HT2 HB2 HD2
  clear bb
  clear kO
  obtain ⟨wa4, hwa4⟩ : ∃ W, w3.alloc (.cells #[.int .i64 yh, .int .i64 yr, .int .i64 ys, .string yi] 26) = W := ⟨_, rfl⟩
  obtain ⟨nG, hnG⟩ : ∃ n, w3.heap.size = n := ⟨_, rfl⟩
  have hgG : g < nG := by rw [← hnG]; exact HD3.out.lt'
  have hnGP : w.heap.size < nG := by rw [← hnG]; exact HP3.out.lt
  have hnGT : (w.heap.size + 1) < nG := by rw [← hnG]; exact HT3.out.lt
  have HAnG : Hid (Below w3.heap.size w3 wa4) := by rw [← hwa4]; exact below_one _ _
  have HP4 : Hid (Blk wa4 w.heap.size [.int .i64 0, .int .i64 0, .int .i64 0, .string ⟨#[]⟩] 26) := HP3.out.below HAnG.out HP3.out.lt
  have HT4 : Hid (Blk wa4 (w.heap.size + 1) [.int .i64 0, .int .i64 0, .int .i64 0, .string ⟨#[]⟩, .int .i64 0] 31) := HT3.out.below HAnG.out HT3.out.lt
  have HD4 : Hid (DS wa4 g (g + 1)) := HD3.out.below (HAnG.out.mono (show g + 1 ≤ _ from HD3.out.lt'))
  have HB4 : Hid (Below w.heap.size w wa4) := HB3.out.trans (HAnG.out.mono HB3.out.size)
  have HN4 : Hid (Blk wa4 nG [.int .i64 yh, .int .i64 yr, .int .i64 ys, .string yi] 26) := by rw [← hwa4, ← hnG]; exact blk_new _ _ _
  clear HAnG HP3 HT3 HB3 HD3
  go_wp2_with fail
  clear hwa4 hnG
  refine (once_d g (g + 1) 5 _ HD4.out).mono ?_
  rintro e w5 ⟨t, rfl, HDn, HGn⟩
  have HP5 : Hid (Blk w5 w.heap.size [.int .i64 0, .int .i64 0, .int .i64 0, .string ⟨#[]⟩] 26) := HP4.out.grown HGn.out (fun e => by injection e with e; omega)
  have HT5 : Hid (Blk w5 (w.heap.size + 1) [.int .i64 0, .int .i64 0, .int .i64 0, .string ⟨#[]⟩, .int .i64 0] 31) := HT4.out.grown HGn.out (fun e => by injection e with e; omega)
  have HN5 : Hid (Blk w5 nG [.int .i64 yh, .int .i64 yr, .int .i64 ys, .string yi] 26) := HN4.out.grown HGn.out (fun e => by injection e with e; omega)
  have HD5 : Hid (DS w5 g (g + 1)) := HDn
  have HB5 : Hid (Below w.heap.size w w5) := HB4.out.grown HGn.out HB4.out.size (fun j e => by injection e with e; omega)
  clear HGn HDn HP4 HT4 HN4 HB4 HD4
  rcases t with _ | _
  · skip
    go_wp2_with fail
    refine (once_d g (g + 1) 4 _ HD5.out).mono ?_
    rintro e w6 ⟨t2, rfl, HDn, HGn⟩
    have HP6 : Hid (Blk w6 w.heap.size [.int .i64 0, .int .i64 0, .int .i64 0, .string ⟨#[]⟩] 26) := HP5.out.grown HGn.out (fun e => by injection e with e; omega)
    have HT6 : Hid (Blk w6 (w.heap.size + 1) [.int .i64 0, .int .i64 0, .int .i64 0, .string ⟨#[]⟩, .int .i64 0] 31) := HT5.out.grown HGn.out (fun e => by injection e with e; omega)
    have HN6 : Hid (Blk w6 nG [.int .i64 yh, .int .i64 yr, .int .i64 ys, .string yi] 26) := HN5.out.grown HGn.out (fun e => by injection e with e; omega)
    have HD6 : Hid (DS w6 g (g + 1)) := HDn
    have HB6 : Hid (Below w.heap.size w w6) := HB5.out.grown HGn.out HB5.out.size (fun j e => by injection e with e; omega)
    clear HGn HDn HP5 HT5 HN5 HB5 HD5
    rcases t2 with _ | _
    · skip
      have cN_0_6 := HN6.out.cell 0 rfl
      have cN_1_6 := HN6.out.cell 1 rfl
      have cN_2_6 := HN6.out.cell 2 rfl
      have cN_3_6 := HN6.out.cell 3 rfl
      go_wp2_with fail
      have HWd := (Below.refl w6.heap.size w6).drew
      have HPd : Hid (Blk w6.drew w.heap.size [.int .i64 0, .int .i64 0, .int .i64 0, .string ⟨#[]⟩] 26) := HP6.out.below HWd HP6.out.lt
      have HTd : Hid (Blk w6.drew (w.heap.size + 1) [.int .i64 0, .int .i64 0, .int .i64 0, .string ⟨#[]⟩, .int .i64 0] 31) := HT6.out.below HWd HT6.out.lt
      have HNd : Hid (Blk w6.drew nG [.int .i64 yh, .int .i64 yr, .int .i64 ys, .string yi] 26) := HN6.out.below HWd HN6.out.lt
      have HDd : Hid (DS w6.drew g (g + 1)) := HD6.out.below (HWd.mono (show g + 1 ≤ _ from HD6.out.lt'))
      have HBd : Hid (Below w.heap.size w w6.drew) := HB6.out.trans (HWd.mono HB6.out.size)
      go_region_law (refine step_call1e (by rfl) 48 _ _ (by rfl) Try.f48 Try.func48 (by kernel_rfl) (by kernel_rfl) _ (by rfl) Vt (fun q => .agg #[.int .i64 q.h, .int .i64 q.r, .int .i64 q.s, .string q.i, .int .i64 q.v]) (fun x w' => Hid (Dr x.r x.i x.v) ∧ Hid (DS w' g (g + 1)) ∧ Hid (w6.drew.grownBy w' (some g))) (vote_d g (g + 1) _ HDd.out (show g + 1 ≤ _ from HDd.out.lt')) ?_; rintro ⟨xh, xr, xs, xi, xv⟩ w7 ⟨_, HD7, HG7⟩; simp only; have HP7 : Hid (Blk w7 w.heap.size [.int .i64 0, .int .i64 0, .int .i64 0, .string ⟨#[]⟩] 26) := HPd.out.grown HG7.out (fun e => by injection e with e; omega); have HT7 : Hid (Blk w7 (w.heap.size + 1) [.int .i64 0, .int .i64 0, .int .i64 0, .string ⟨#[]⟩, .int .i64 0] 31) := HTd.out.grown HG7.out (fun e => by injection e with e; omega); have HN7 : Hid (Blk w7 nG [.int .i64 yh, .int .i64 yr, .int .i64 ys, .string yi] 26) := HNd.out.grown HG7.out (fun e => by injection e with e; omega); have HB7 : Hid (Below w.heap.size w w7) := HBd.out.grown HG7.out HBd.out.size (fun j e => by injection e with e; omega); have c7P_0 := HP7.out.cell 0 rfl; have c7P_1 := HP7.out.cell 1 rfl; have c7P_2 := HP7.out.cell 2 rfl; have c7P_3 := HP7.out.cell 3 rfl; have z7P := fun j => HP7.out.frozen j; have c7T_0 := HT7.out.cell 0 rfl; have c7T_1 := HT7.out.cell 1 rfl; have c7T_2 := HT7.out.cell 2 rfl; have c7T_3 := HT7.out.cell 3 rfl; have c7T_4 := HT7.out.cell 4 rfl; have z7T := fun j => HT7.out.frozen j; have c7N_0 := HN7.out.cell 0 rfl; have c7N_1 := HN7.out.cell 1 rfl; have c7N_2 := HN7.out.cell 2 rfl; have c7N_3 := HN7.out.cell 3 rfl; have z7N := fun j => HN7.out.frozen j)
      clear cN_0_6 cN_1_6 cN_2_6 cN_3_6
      all_goals
        have KG1 : Hid (w7.grownBy ((((w7.setCell ⟨w.heap.size, 0, none⟩ (.int .i64 yh)).setCell ⟨w.heap.size, 1, none⟩ (.int .i64 yr)).setCell ⟨w.heap.size, 2, none⟩ (.int .i64 ys)).setCell ⟨w.heap.size, 3, none⟩ (.string yi)) (some w.heap.size)) := grown_set (grown_set (grown_set (grown_set (grown_refl _ _) _) _) _) _
        have KG2 : Hid (((((w7.setCell ⟨w.heap.size, 0, none⟩ (.int .i64 yh)).setCell ⟨w.heap.size, 1, none⟩ (.int .i64 yr)).setCell ⟨w.heap.size, 2, none⟩ (.int .i64 ys)).setCell ⟨w.heap.size, 3, none⟩ (.string yi)).grownBy (((((((((w7.setCell ⟨w.heap.size, 0, none⟩ (.int .i64 yh)).setCell ⟨w.heap.size, 1, none⟩ (.int .i64 yr)).setCell ⟨w.heap.size, 2, none⟩ (.int .i64 ys)).setCell ⟨w.heap.size, 3, none⟩ (.string yi)).setCell ⟨(w.heap.size + 1), 0, none⟩ (.int .i64 xh)).setCell ⟨(w.heap.size + 1), 1, none⟩ (.int .i64 xr)).setCell ⟨(w.heap.size + 1), 2, none⟩ (.int .i64 xs)).setCell ⟨(w.heap.size + 1), 3, none⟩ (.string xi)).setCell ⟨(w.heap.size + 1), 4, none⟩ (.int .i64 xv)) (some (w.heap.size + 1))) := grown_set (grown_set (grown_set (grown_set (grown_set (grown_refl _ _) _) _) _) _) _
        have K1 : Hid (Blk (((((((((w7.setCell ⟨w.heap.size, 0, none⟩ (.int .i64 yh)).setCell ⟨w.heap.size, 1, none⟩ (.int .i64 yr)).setCell ⟨w.heap.size, 2, none⟩ (.int .i64 ys)).setCell ⟨w.heap.size, 3, none⟩ (.string yi)).setCell ⟨(w.heap.size + 1), 0, none⟩ (.int .i64 xh)).setCell ⟨(w.heap.size + 1), 1, none⟩ (.int .i64 xr)).setCell ⟨(w.heap.size + 1), 2, none⟩ (.int .i64 xs)).setCell ⟨(w.heap.size + 1), 3, none⟩ (.string xi)).setCell ⟨(w.heap.size + 1), 4, none⟩ (.int .i64 xv)) w.heap.size [.int .i64 yh, .int .i64 yr, .int .i64 ys, .string yi] 26) := (show Blk ((((w7.setCell ⟨w.heap.size, 0, none⟩ (.int .i64 yh)).setCell ⟨w.heap.size, 1, none⟩ (.int .i64 yr)).setCell ⟨w.heap.size, 2, none⟩ (.int .i64 ys)).setCell ⟨w.heap.size, 3, none⟩ (.string yi)) w.heap.size [.int .i64 yh, .int .i64 yr, .int .i64 ys, .string yi] 26 from ((((HP7.out.set 0 (.int .i64 yh)).set 1 (.int .i64 yr)).set 2 (.int .i64 ys)).set 3 (.string yi))).grown KG2.out (fun e => by injection e with e; omega)
        have K2 : Hid (Blk (((((((((w7.setCell ⟨w.heap.size, 0, none⟩ (.int .i64 yh)).setCell ⟨w.heap.size, 1, none⟩ (.int .i64 yr)).setCell ⟨w.heap.size, 2, none⟩ (.int .i64 ys)).setCell ⟨w.heap.size, 3, none⟩ (.string yi)).setCell ⟨(w.heap.size + 1), 0, none⟩ (.int .i64 xh)).setCell ⟨(w.heap.size + 1), 1, none⟩ (.int .i64 xr)).setCell ⟨(w.heap.size + 1), 2, none⟩ (.int .i64 xs)).setCell ⟨(w.heap.size + 1), 3, none⟩ (.string xi)).setCell ⟨(w.heap.size + 1), 4, none⟩ (.int .i64 xv)) (w.heap.size + 1) [.int .i64 xh, .int .i64 xr, .int .i64 xs, .string xi, .int .i64 xv] 31) := ((((((HT7.out.grown KG1.out (fun e => by injection e with e; omega)).set 0 (.int .i64 xh)).set 1 (.int .i64 xr)).set 2 (.int .i64 xs)).set 3 (.string xi)).set 4 (.int .i64 xv))
        have KB : Hid (Below w.heap.size w (((((((((w7.setCell ⟨w.heap.size, 0, none⟩ (.int .i64 yh)).setCell ⟨w.heap.size, 1, none⟩ (.int .i64 yr)).setCell ⟨w.heap.size, 2, none⟩ (.int .i64 ys)).setCell ⟨w.heap.size, 3, none⟩ (.string yi)).setCell ⟨(w.heap.size + 1), 0, none⟩ (.int .i64 xh)).setCell ⟨(w.heap.size + 1), 1, none⟩ (.int .i64 xr)).setCell ⟨(w.heap.size + 1), 2, none⟩ (.int .i64 xs)).setCell ⟨(w.heap.size + 1), 3, none⟩ (.string xi)).setCell ⟨(w.heap.size + 1), 4, none⟩ (.int .i64 xv))) := (HB7.out.grown KG1.out HB7.out.size (fun j e => by injection e with e; omega)).grown KG2.out (Nat.le_trans HB7.out.size KG1.out.size) (fun j e => by injection e with e; omega)
        clear c7P_0 c7P_1 c7P_2 c7P_3 c7T_0 c7T_1 c7T_2 c7T_3 c7T_4 c7N_0 c7N_1 c7N_2 c7N_3 z7P z7T z7N HPd HP7 HTd HT7 HNd HN7 HB7 HBd HDd HWd
        generalize (((((((((w7.setCell ⟨w.heap.size, 0, none⟩ (.int .i64 yh)).setCell ⟨w.heap.size, 1, none⟩ (.int .i64 yr)).setCell ⟨w.heap.size, 2, none⟩ (.int .i64 ys)).setCell ⟨w.heap.size, 3, none⟩ (.string yi)).setCell ⟨(w.heap.size + 1), 0, none⟩ (.int .i64 xh)).setCell ⟨(w.heap.size + 1), 1, none⟩ (.int .i64 xr)).setCell ⟨(w.heap.size + 1), 2, none⟩ (.int .i64 xs)).setCell ⟨(w.heap.size + 1), 3, none⟩ (.string xi)).setCell ⟨(w.heap.size + 1), 4, none⟩ (.int .i64 xv)) = wz at *
        have y0 := K1.out.cell 0 rfl
        have y1 := K1.out.cell 1 rfl
        have y2 := K1.out.cell 2 rfl
        have y3 := K1.out.cell 3 rfl
        have u0 := K2.out.cell 0 rfl
        have u1 := K2.out.cell 1 rfl
        have u2 := K2.out.cell 2 rfl
        have u3 := K2.out.cell 3 rfl
        have u4 := K2.out.cell 4 rfl
        go_wp2
        refine bodyPost_ret (v := .tuple #[.agg #[.int .i64 yh, .int .i64 yr, .int .i64 ys, .string yi], .agg #[.int .i64 xh, .int .i64 xr, .int .i64 xs, .string xi, .int .i64 xv]]) (by simp [results, Try.results20, go_sem, y0, y1, y2, y3, u0, u1, u2, u3, u4]) rfl ?_
        first | exact ⟨(⟨yh, yr, ys, yi⟩ : Gt), (⟨xh, xr, xs, xi, xv⟩ : Vt), rfl, KB.out⟩ | exact ⟨⟨(⟨yh, yr, ys, yi⟩ : Gt), (⟨xh, xr, xs, xi, xv⟩ : Vt), rfl⟩, KB.out⟩ | exact ⟨⟨(⟨yh, yr, ys, yi⟩ : Gt), rfl, (⟨xh, xr, xs, xi, xv⟩ : Vt), rfl⟩, KB.out⟩ | exact ⟨⟨(⟨yh, yr, ys, yi⟩ : Gt), rfl⟩, ⟨(⟨xh, xr, xs, xi, xv⟩ : Vt), rfl⟩, KB.out⟩ | exact ⟨⟨⟨(⟨yh, yr, ys, yi⟩ : Gt), rfl⟩, ⟨(⟨xh, xr, xs, xi, xv⟩ : Vt), rfl⟩⟩, KB.out⟩ | exact ⟨⟨_, rfl⟩, ⟨_, rfl⟩, KB.out⟩ | done
    · skip
      have cN_0_6 := HN6.out.cell 0 rfl
      have cN_1_6 := HN6.out.cell 1 rfl
      have cN_2_6 := HN6.out.cell 2 rfl
      have cN_3_6 := HN6.out.cell 3 rfl
      go_wp2_with fail
      have HWd := (Below.refl w6.heap.size w6).drew
      have HPd : Hid (Blk w6.drew w.heap.size [.int .i64 0, .int .i64 0, .int .i64 0, .string ⟨#[]⟩] 26) := HP6.out.below HWd HP6.out.lt
      have HTd : Hid (Blk w6.drew (w.heap.size + 1) [.int .i64 0, .int .i64 0, .int .i64 0, .string ⟨#[]⟩, .int .i64 0] 31) := HT6.out.below HWd HT6.out.lt
      have HNd : Hid (Blk w6.drew nG [.int .i64 yh, .int .i64 yr, .int .i64 ys, .string yi] 26) := HN6.out.below HWd HN6.out.lt
      have HDd : Hid (DS w6.drew g (g + 1)) := HD6.out.below (HWd.mono (show g + 1 ≤ _ from HD6.out.lt'))
      have HBd : Hid (Below w.heap.size w w6.drew) := HB6.out.trans (HWd.mono HB6.out.size)
      have kG : ∀ W, Calls Try.prog 50 #[.agg #[.int .i64 yh, .int .i64 yr, .int .i64 ys, .string yi], .int .i64 2] W fun e w' => e = .returned (.agg #[.int .i64 yh, .int .i64 yr, .int .i64 ys, .string yi, .int .i64 2]) ∧ Below W.heap.size W w' := fun W => spec_gvo ⟨yh, yr, ys, yi⟩ 2 W
      go_region_law (refine step_call2 (by rfl) 50 _ _ _ _ (by rfl) Try.f50 Try.func50 (by kernel_rfl) (by kernel_rfl) _ _ _ (by rfl) (by rfl) _ (kG _) ?_; intro w7 b7; have HP7 : Hid (Blk w7 w.heap.size [.int .i64 0, .int .i64 0, .int .i64 0, .string ⟨#[]⟩] 26) := HPd.out.below b7 HPd.out.lt; have HT7 : Hid (Blk w7 (w.heap.size + 1) [.int .i64 0, .int .i64 0, .int .i64 0, .string ⟨#[]⟩, .int .i64 0] 31) := HTd.out.below b7 HTd.out.lt; have HN7 : Hid (Blk w7 nG [.int .i64 yh, .int .i64 yr, .int .i64 ys, .string yi] 26) := HNd.out.below b7 HNd.out.lt; have HB7 : Hid (Below w.heap.size w w7) := HBd.out.trans (b7.mono HBd.out.size); have c7P_0 := HP7.out.cell 0 rfl; have c7P_1 := HP7.out.cell 1 rfl; have c7P_2 := HP7.out.cell 2 rfl; have c7P_3 := HP7.out.cell 3 rfl; have z7P := fun j => HP7.out.frozen j; have c7T_0 := HT7.out.cell 0 rfl; have c7T_1 := HT7.out.cell 1 rfl; have c7T_2 := HT7.out.cell 2 rfl; have c7T_3 := HT7.out.cell 3 rfl; have c7T_4 := HT7.out.cell 4 rfl; have z7T := fun j => HT7.out.frozen j; have c7N_0 := HN7.out.cell 0 rfl; have c7N_1 := HN7.out.cell 1 rfl; have c7N_2 := HN7.out.cell 2 rfl; have c7N_3 := HN7.out.cell 3 rfl; have z7N := fun j => HN7.out.frozen j)
      clear cN_0_6 cN_1_6 cN_2_6 cN_3_6
      all_goals
        have KG1 : Hid (w7.grownBy ((((w7.setCell ⟨w.heap.size, 0, none⟩ (.int .i64 yh)).setCell ⟨w.heap.size, 1, none⟩ (.int .i64 yr)).setCell ⟨w.heap.size, 2, none⟩ (.int .i64 ys)).setCell ⟨w.heap.size, 3, none⟩ (.string yi)) (some w.heap.size)) := grown_set (grown_set (grown_set (grown_set (grown_refl _ _) _) _) _) _
        have KG2 : Hid (((((w7.setCell ⟨w.heap.size, 0, none⟩ (.int .i64 yh)).setCell ⟨w.heap.size, 1, none⟩ (.int .i64 yr)).setCell ⟨w.heap.size, 2, none⟩ (.int .i64 ys)).setCell ⟨w.heap.size, 3, none⟩ (.string yi)).grownBy (((((((((w7.setCell ⟨w.heap.size, 0, none⟩ (.int .i64 yh)).setCell ⟨w.heap.size, 1, none⟩ (.int .i64 yr)).setCell ⟨w.heap.size, 2, none⟩ (.int .i64 ys)).setCell ⟨w.heap.size, 3, none⟩ (.string yi)).setCell ⟨(w.heap.size + 1), 0, none⟩ (.int .i64 yh)).setCell ⟨(w.heap.size + 1), 1, none⟩ (.int .i64 yr)).setCell ⟨(w.heap.size + 1), 2, none⟩ (.int .i64 ys)).setCell ⟨(w.heap.size + 1), 3, none⟩ (.string yi)).setCell ⟨(w.heap.size + 1), 4, none⟩ (.int .i64 2)) (some (w.heap.size + 1))) := grown_set (grown_set (grown_set (grown_set (grown_set (grown_refl _ _) _) _) _) _) _
        have K1 : Hid (Blk (((((((((w7.setCell ⟨w.heap.size, 0, none⟩ (.int .i64 yh)).setCell ⟨w.heap.size, 1, none⟩ (.int .i64 yr)).setCell ⟨w.heap.size, 2, none⟩ (.int .i64 ys)).setCell ⟨w.heap.size, 3, none⟩ (.string yi)).setCell ⟨(w.heap.size + 1), 0, none⟩ (.int .i64 yh)).setCell ⟨(w.heap.size + 1), 1, none⟩ (.int .i64 yr)).setCell ⟨(w.heap.size + 1), 2, none⟩ (.int .i64 ys)).setCell ⟨(w.heap.size + 1), 3, none⟩ (.string yi)).setCell ⟨(w.heap.size + 1), 4, none⟩ (.int .i64 2)) w.heap.size [.int .i64 yh, .int .i64 yr, .int .i64 ys, .string yi] 26) := (show Blk ((((w7.setCell ⟨w.heap.size, 0, none⟩ (.int .i64 yh)).setCell ⟨w.heap.size, 1, none⟩ (.int .i64 yr)).setCell ⟨w.heap.size, 2, none⟩ (.int .i64 ys)).setCell ⟨w.heap.size, 3, none⟩ (.string yi)) w.heap.size [.int .i64 yh, .int .i64 yr, .int .i64 ys, .string yi] 26 from ((((HP7.out.set 0 (.int .i64 yh)).set 1 (.int .i64 yr)).set 2 (.int .i64 ys)).set 3 (.string yi))).grown KG2.out (fun e => by injection e with e; omega)
        have K2 : Hid (Blk (((((((((w7.setCell ⟨w.heap.size, 0, none⟩ (.int .i64 yh)).setCell ⟨w.heap.size, 1, none⟩ (.int .i64 yr)).setCell ⟨w.heap.size, 2, none⟩ (.int .i64 ys)).setCell ⟨w.heap.size, 3, none⟩ (.string yi)).setCell ⟨(w.heap.size + 1), 0, none⟩ (.int .i64 yh)).setCell ⟨(w.heap.size + 1), 1, none⟩ (.int .i64 yr)).setCell ⟨(w.heap.size + 1), 2, none⟩ (.int .i64 ys)).setCell ⟨(w.heap.size + 1), 3, none⟩ (.string yi)).setCell ⟨(w.heap.size + 1), 4, none⟩ (.int .i64 2)) (w.heap.size + 1) [.int .i64 yh, .int .i64 yr, .int .i64 ys, .string yi, .int .i64 2] 31) := ((((((HT7.out.grown KG1.out (fun e => by injection e with e; omega)).set 0 (.int .i64 yh)).set 1 (.int .i64 yr)).set 2 (.int .i64 ys)).set 3 (.string yi)).set 4 (.int .i64 2))
        have KB : Hid (Below w.heap.size w (((((((((w7.setCell ⟨w.heap.size, 0, none⟩ (.int .i64 yh)).setCell ⟨w.heap.size, 1, none⟩ (.int .i64 yr)).setCell ⟨w.heap.size, 2, none⟩ (.int .i64 ys)).setCell ⟨w.heap.size, 3, none⟩ (.string yi)).setCell ⟨(w.heap.size + 1), 0, none⟩ (.int .i64 yh)).setCell ⟨(w.heap.size + 1), 1, none⟩ (.int .i64 yr)).setCell ⟨(w.heap.size + 1), 2, none⟩ (.int .i64 ys)).setCell ⟨(w.heap.size + 1), 3, none⟩ (.string yi)).setCell ⟨(w.heap.size + 1), 4, none⟩ (.int .i64 2))) := (HB7.out.grown KG1.out HB7.out.size (fun j e => by injection e with e; omega)).grown KG2.out (Nat.le_trans HB7.out.size KG1.out.size) (fun j e => by injection e with e; omega)
        clear c7P_0 c7P_1 c7P_2 c7P_3 c7T_0 c7T_1 c7T_2 c7T_3 c7T_4 c7N_0 c7N_1 c7N_2 c7N_3 z7P z7T z7N HPd HP7 HTd HT7 HNd HN7 HB7 HBd HDd HWd
        generalize (((((((((w7.setCell ⟨w.heap.size, 0, none⟩ (.int .i64 yh)).setCell ⟨w.heap.size, 1, none⟩ (.int .i64 yr)).setCell ⟨w.heap.size, 2, none⟩ (.int .i64 ys)).setCell ⟨w.heap.size, 3, none⟩ (.string yi)).setCell ⟨(w.heap.size + 1), 0, none⟩ (.int .i64 yh)).setCell ⟨(w.heap.size + 1), 1, none⟩ (.int .i64 yr)).setCell ⟨(w.heap.size + 1), 2, none⟩ (.int .i64 ys)).setCell ⟨(w.heap.size + 1), 3, none⟩ (.string yi)).setCell ⟨(w.heap.size + 1), 4, none⟩ (.int .i64 2)) = wz at *
        have y0 := K1.out.cell 0 rfl
        have y1 := K1.out.cell 1 rfl
        have y2 := K1.out.cell 2 rfl
        have y3 := K1.out.cell 3 rfl
        have u0 := K2.out.cell 0 rfl
        have u1 := K2.out.cell 1 rfl
        have u2 := K2.out.cell 2 rfl
        have u3 := K2.out.cell 3 rfl
        have u4 := K2.out.cell 4 rfl
        go_wp2
        refine bodyPost_ret (v := .tuple #[.agg #[.int .i64 yh, .int .i64 yr, .int .i64 ys, .string yi], .agg #[.int .i64 yh, .int .i64 yr, .int .i64 ys, .string yi, .int .i64 2]]) (by simp [results, Try.results20, go_sem, y0, y1, y2, y3, u0, u1, u2, u3, u4]) rfl ?_
        first | exact ⟨(⟨yh, yr, ys, yi⟩ : Gt), (⟨yh, yr, ys, yi, 2⟩ : Vt), rfl, KB.out⟩ | exact ⟨⟨(⟨yh, yr, ys, yi⟩ : Gt), (⟨yh, yr, ys, yi, 2⟩ : Vt), rfl⟩, KB.out⟩ | exact ⟨⟨(⟨yh, yr, ys, yi⟩ : Gt), rfl, (⟨yh, yr, ys, yi, 2⟩ : Vt), rfl⟩, KB.out⟩ | exact ⟨⟨(⟨yh, yr, ys, yi⟩ : Gt), rfl⟩, ⟨(⟨yh, yr, ys, yi, 2⟩ : Vt), rfl⟩, KB.out⟩ | exact ⟨⟨⟨(⟨yh, yr, ys, yi⟩ : Gt), rfl⟩, ⟨(⟨yh, yr, ys, yi, 2⟩ : Vt), rfl⟩⟩, KB.out⟩ | exact ⟨⟨_, rfl⟩, ⟨_, rfl⟩, KB.out⟩ | done
  · skip
    have cN_0_5 := HN5.out.cell 0 rfl
    have cN_1_5 := HN5.out.cell 1 rfl
    have cN_2_5 := HN5.out.cell 2 rfl
    have cN_3_5 := HN5.out.cell 3 rfl
    have zN_5 := fun j => HN5.out.frozen j
    have KP := ((((HP5.out.other 0 (.int .i64 0) (show w.heap.size ≠ nG by omega)).other 1 (.int .i64 0) (show w.heap.size ≠ nG by omega)).other 2 (.int .i64 0) (show w.heap.size ≠ nG by omega)).other 3 (.string ⟨#[]⟩) (show w.heap.size ≠ nG by omega))
    have KT := ((((HT5.out.other 0 (.int .i64 0) (show (w.heap.size + 1) ≠ nG by omega)).other 1 (.int .i64 0) (show (w.heap.size + 1) ≠ nG by omega)).other 2 (.int .i64 0) (show (w.heap.size + 1) ≠ nG by omega)).other 3 (.string ⟨#[]⟩) (show (w.heap.size + 1) ≠ nG by omega))
    have KN := ((((HN5.out.set 0 (.int .i64 0)).set 1 (.int .i64 0)).set 2 (.int .i64 0)).set 3 (.string ⟨#[]⟩))
    have KB := ((((HB5.out.setCell (p := ⟨nG, 0, none⟩) (show w.heap.size ≤ nG by omega) (.int .i64 0)).setCell (p := ⟨nG, 1, none⟩) (show w.heap.size ≤ nG by omega) (.int .i64 0)).setCell (p := ⟨nG, 2, none⟩) (show w.heap.size ≤ nG by omega) (.int .i64 0)).setCell (p := ⟨nG, 3, none⟩) (show w.heap.size ≤ nG by omega) (.string ⟨#[]⟩))
    have KG : Hid (w5.grownBy ((((w5.setCell ⟨nG, 0, none⟩ (.int .i64 0)).setCell ⟨nG, 1, none⟩ (.int .i64 0)).setCell ⟨nG, 2, none⟩ (.int .i64 0)).setCell ⟨nG, 3, none⟩ (.string ⟨#[]⟩)) (some nG)) := grown_set (grown_set (grown_set (grown_set (grown_refl _ _) _) _) _) _
    have KD : Hid (DS ((((w5.setCell ⟨nG, 0, none⟩ (.int .i64 0)).setCell ⟨nG, 1, none⟩ (.int .i64 0)).setCell ⟨nG, 2, none⟩ (.int .i64 0)).setCell ⟨nG, 3, none⟩ (.string ⟨#[]⟩)) g (g + 1)) := HD5.out.below ((Below.refl (g + 1) _).grown KG.out (show g + 1 ≤ _ from HD5.out.lt') (fun j e => by injection e with e; omega))
    go_upto_region 5 with fail
    clear cN_0_5 cN_1_5 cN_2_5 cN_3_5 zN_5
    generalize (((((w5.setCell _ _).setCell _ _).setCell _ _).setCell _ _) : World) = w6 at *
    have HP6 : Hid (Blk w6 w.heap.size [.int .i64 0, .int .i64 0, .int .i64 0, .string ⟨#[]⟩] 26) := KP
    have HT6 : Hid (Blk w6 (w.heap.size + 1) [.int .i64 0, .int .i64 0, .int .i64 0, .string ⟨#[]⟩, .int .i64 0] 31) := KT
    have HN6 : Hid (Blk w6 nG [.int .i64 0, .int .i64 0, .int .i64 0, .string ⟨#[]⟩] 26) := KN
    have HD6 : Hid (DS w6 g (g + 1)) := KD
    have HB6 : Hid (Below w.heap.size w w6) := KB
    clear KP KT KN KB KG KD HP5 HT5 HN5 HB5 HD5
    go_wp2_with fail
    refine (once_d g (g + 1) 4 _ HD6.out).mono ?_
    rintro e w7 ⟨t2, rfl, HDn, HGn⟩
    have HP7 : Hid (Blk w7 w.heap.size [.int .i64 0, .int .i64 0, .int .i64 0, .string ⟨#[]⟩] 26) := HP6.out.grown HGn.out (fun e => by injection e with e; omega)
    have HT7 : Hid (Blk w7 (w.heap.size + 1) [.int .i64 0, .int .i64 0, .int .i64 0, .string ⟨#[]⟩, .int .i64 0] 31) := HT6.out.grown HGn.out (fun e => by injection e with e; omega)
    have HN7 : Hid (Blk w7 nG [.int .i64 0, .int .i64 0, .int .i64 0, .string ⟨#[]⟩] 26) := HN6.out.grown HGn.out (fun e => by injection e with e; omega)
    have HD7 : Hid (DS w7 g (g + 1)) := HDn
    have HB7 : Hid (Below w.heap.size w w7) := HB6.out.grown HGn.out HB6.out.size (fun j e => by injection e with e; omega)
    clear HGn HDn HP6 HT6 HN6 HB6 HD6
    rcases t2 with _ | _
    · skip
      have cN_0_7 := HN7.out.cell 0 rfl
      have cN_1_7 := HN7.out.cell 1 rfl
      have cN_2_7 := HN7.out.cell 2 rfl
      have cN_3_7 := HN7.out.cell 3 rfl
      go_wp2_with fail
      have HWd := (Below.refl w7.heap.size w7).drew
      have HPd : Hid (Blk w7.drew w.heap.size [.int .i64 0, .int .i64 0, .int .i64 0, .string ⟨#[]⟩] 26) := HP7.out.below HWd HP7.out.lt
      have HTd : Hid (Blk w7.drew (w.heap.size + 1) [.int .i64 0, .int .i64 0, .int .i64 0, .string ⟨#[]⟩, .int .i64 0] 31) := HT7.out.below HWd HT7.out.lt
      have HNd : Hid (Blk w7.drew nG [.int .i64 0, .int .i64 0, .int .i64 0, .string ⟨#[]⟩] 26) := HN7.out.below HWd HN7.out.lt
      have HDd : Hid (DS w7.drew g (g + 1)) := HD7.out.below (HWd.mono (show g + 1 ≤ _ from HD7.out.lt'))
      have HBd : Hid (Below w.heap.size w w7.drew) := HB7.out.trans (HWd.mono HB7.out.size)
      go_region_law (refine step_call1e (by rfl) 48 _ _ (by rfl) Try.f48 Try.func48 (by kernel_rfl) (by kernel_rfl) _ (by rfl) Vt (fun q => .agg #[.int .i64 q.h, .int .i64 q.r, .int .i64 q.s, .string q.i, .int .i64 q.v]) (fun x w' => Hid (Dr x.r x.i x.v) ∧ Hid (DS w' g (g + 1)) ∧ Hid (w7.drew.grownBy w' (some g))) (vote_d g (g + 1) _ HDd.out (show g + 1 ≤ _ from HDd.out.lt')) ?_; rintro ⟨xh, xr, xs, xi, xv⟩ w7 ⟨_, HD7, HG7⟩; simp only; have HP7 : Hid (Blk w7 w.heap.size [.int .i64 0, .int .i64 0, .int .i64 0, .string ⟨#[]⟩] 26) := HPd.out.grown HG7.out (fun e => by injection e with e; omega); have HT7 : Hid (Blk w7 (w.heap.size + 1) [.int .i64 0, .int .i64 0, .int .i64 0, .string ⟨#[]⟩, .int .i64 0] 31) := HTd.out.grown HG7.out (fun e => by injection e with e; omega); have HN7 : Hid (Blk w7 nG [.int .i64 0, .int .i64 0, .int .i64 0, .string ⟨#[]⟩] 26) := HNd.out.grown HG7.out (fun e => by injection e with e; omega); have HB7 : Hid (Below w.heap.size w w7) := HBd.out.grown HG7.out HBd.out.size (fun j e => by injection e with e; omega); have c7P_0 := HP7.out.cell 0 rfl; have c7P_1 := HP7.out.cell 1 rfl; have c7P_2 := HP7.out.cell 2 rfl; have c7P_3 := HP7.out.cell 3 rfl; have z7P := fun j => HP7.out.frozen j; have c7T_0 := HT7.out.cell 0 rfl; have c7T_1 := HT7.out.cell 1 rfl; have c7T_2 := HT7.out.cell 2 rfl; have c7T_3 := HT7.out.cell 3 rfl; have c7T_4 := HT7.out.cell 4 rfl; have z7T := fun j => HT7.out.frozen j; have c7N_0 := HN7.out.cell 0 rfl; have c7N_1 := HN7.out.cell 1 rfl; have c7N_2 := HN7.out.cell 2 rfl; have c7N_3 := HN7.out.cell 3 rfl; have z7N := fun j => HN7.out.frozen j)
      clear cN_0_7 cN_1_7 cN_2_7 cN_3_7
      all_goals
        have KG1 : Hid (w7.grownBy ((((w7.setCell ⟨w.heap.size, 0, none⟩ (.int .i64 0)).setCell ⟨w.heap.size, 1, none⟩ (.int .i64 0)).setCell ⟨w.heap.size, 2, none⟩ (.int .i64 0)).setCell ⟨w.heap.size, 3, none⟩ (.string ⟨#[]⟩)) (some w.heap.size)) := grown_set (grown_set (grown_set (grown_set (grown_refl _ _) _) _) _) _
        have KG2 : Hid (((((w7.setCell ⟨w.heap.size, 0, none⟩ (.int .i64 0)).setCell ⟨w.heap.size, 1, none⟩ (.int .i64 0)).setCell ⟨w.heap.size, 2, none⟩ (.int .i64 0)).setCell ⟨w.heap.size, 3, none⟩ (.string ⟨#[]⟩)).grownBy (((((((((w7.setCell ⟨w.heap.size, 0, none⟩ (.int .i64 0)).setCell ⟨w.heap.size, 1, none⟩ (.int .i64 0)).setCell ⟨w.heap.size, 2, none⟩ (.int .i64 0)).setCell ⟨w.heap.size, 3, none⟩ (.string ⟨#[]⟩)).setCell ⟨(w.heap.size + 1), 0, none⟩ (.int .i64 xh)).setCell ⟨(w.heap.size + 1), 1, none⟩ (.int .i64 xr)).setCell ⟨(w.heap.size + 1), 2, none⟩ (.int .i64 xs)).setCell ⟨(w.heap.size + 1), 3, none⟩ (.string xi)).setCell ⟨(w.heap.size + 1), 4, none⟩ (.int .i64 xv)) (some (w.heap.size + 1))) := grown_set (grown_set (grown_set (grown_set (grown_set (grown_refl _ _) _) _) _) _) _
        have K1 : Hid (Blk (((((((((w7.setCell ⟨w.heap.size, 0, none⟩ (.int .i64 0)).setCell ⟨w.heap.size, 1, none⟩ (.int .i64 0)).setCell ⟨w.heap.size, 2, none⟩ (.int .i64 0)).setCell ⟨w.heap.size, 3, none⟩ (.string ⟨#[]⟩)).setCell ⟨(w.heap.size + 1), 0, none⟩ (.int .i64 xh)).setCell ⟨(w.heap.size + 1), 1, none⟩ (.int .i64 xr)).setCell ⟨(w.heap.size + 1), 2, none⟩ (.int .i64 xs)).setCell ⟨(w.heap.size + 1), 3, none⟩ (.string xi)).setCell ⟨(w.heap.size + 1), 4, none⟩ (.int .i64 xv)) w.heap.size [.int .i64 0, .int .i64 0, .int .i64 0, .string ⟨#[]⟩] 26) := (show Blk ((((w7.setCell ⟨w.heap.size, 0, none⟩ (.int .i64 0)).setCell ⟨w.heap.size, 1, none⟩ (.int .i64 0)).setCell ⟨w.heap.size, 2, none⟩ (.int .i64 0)).setCell ⟨w.heap.size, 3, none⟩ (.string ⟨#[]⟩)) w.heap.size [.int .i64 0, .int .i64 0, .int .i64 0, .string ⟨#[]⟩] 26 from ((((HP7.out.set 0 (.int .i64 0)).set 1 (.int .i64 0)).set 2 (.int .i64 0)).set 3 (.string ⟨#[]⟩))).grown KG2.out (fun e => by injection e with e; omega)
        have K2 : Hid (Blk (((((((((w7.setCell ⟨w.heap.size, 0, none⟩ (.int .i64 0)).setCell ⟨w.heap.size, 1, none⟩ (.int .i64 0)).setCell ⟨w.heap.size, 2, none⟩ (.int .i64 0)).setCell ⟨w.heap.size, 3, none⟩ (.string ⟨#[]⟩)).setCell ⟨(w.heap.size + 1), 0, none⟩ (.int .i64 xh)).setCell ⟨(w.heap.size + 1), 1, none⟩ (.int .i64 xr)).setCell ⟨(w.heap.size + 1), 2, none⟩ (.int .i64 xs)).setCell ⟨(w.heap.size + 1), 3, none⟩ (.string xi)).setCell ⟨(w.heap.size + 1), 4, none⟩ (.int .i64 xv)) (w.heap.size + 1) [.int .i64 xh, .int .i64 xr, .int .i64 xs, .string xi, .int .i64 xv] 31) := ((((((HT7.out.grown KG1.out (fun e => by injection e with e; omega)).set 0 (.int .i64 xh)).set 1 (.int .i64 xr)).set 2 (.int .i64 xs)).set 3 (.string xi)).set 4 (.int .i64 xv))
        have KB : Hid (Below w.heap.size w (((((((((w7.setCell ⟨w.heap.size, 0, none⟩ (.int .i64 0)).setCell ⟨w.heap.size, 1, none⟩ (.int .i64 0)).setCell ⟨w.heap.size, 2, none⟩ (.int .i64 0)).setCell ⟨w.heap.size, 3, none⟩ (.string ⟨#[]⟩)).setCell ⟨(w.heap.size + 1), 0, none⟩ (.int .i64 xh)).setCell ⟨(w.heap.size + 1), 1, none⟩ (.int .i64 xr)).setCell ⟨(w.heap.size + 1), 2, none⟩ (.int .i64 xs)).setCell ⟨(w.heap.size + 1), 3, none⟩ (.string xi)).setCell ⟨(w.heap.size + 1), 4, none⟩ (.int .i64 xv))) := (HB7.out.grown KG1.out HB7.out.size (fun j e => by injection e with e; omega)).grown KG2.out (Nat.le_trans HB7.out.size KG1.out.size) (fun j e => by injection e with e; omega)
        clear c7P_0 c7P_1 c7P_2 c7P_3 c7T_0 c7T_1 c7T_2 c7T_3 c7T_4 c7N_0 c7N_1 c7N_2 c7N_3 z7P z7T z7N HPd HP7 HTd HT7 HNd HN7 HB7 HBd HDd HWd
        generalize (((((((((w7.setCell ⟨w.heap.size, 0, none⟩ (.int .i64 0)).setCell ⟨w.heap.size, 1, none⟩ (.int .i64 0)).setCell ⟨w.heap.size, 2, none⟩ (.int .i64 0)).setCell ⟨w.heap.size, 3, none⟩ (.string ⟨#[]⟩)).setCell ⟨(w.heap.size + 1), 0, none⟩ (.int .i64 xh)).setCell ⟨(w.heap.size + 1), 1, none⟩ (.int .i64 xr)).setCell ⟨(w.heap.size + 1), 2, none⟩ (.int .i64 xs)).setCell ⟨(w.heap.size + 1), 3, none⟩ (.string xi)).setCell ⟨(w.heap.size + 1), 4, none⟩ (.int .i64 xv)) = wz at *
        have y0 := K1.out.cell 0 rfl
        have y1 := K1.out.cell 1 rfl
        have y2 := K1.out.cell 2 rfl
        have y3 := K1.out.cell 3 rfl
        have u0 := K2.out.cell 0 rfl
        have u1 := K2.out.cell 1 rfl
        have u2 := K2.out.cell 2 rfl
        have u3 := K2.out.cell 3 rfl
        have u4 := K2.out.cell 4 rfl
        go_wp2
        refine bodyPost_ret (v := .tuple #[.agg #[.int .i64 0, .int .i64 0, .int .i64 0, .string ⟨#[]⟩], .agg #[.int .i64 xh, .int .i64 xr, .int .i64 xs, .string xi, .int .i64 xv]]) (by simp [results, Try.results20, go_sem, y0, y1, y2, y3, u0, u1, u2, u3, u4]) rfl ?_
        first | exact ⟨(⟨0, 0, 0, ⟨#[]⟩⟩ : Gt), (⟨xh, xr, xs, xi, xv⟩ : Vt), rfl, KB.out⟩ | exact ⟨⟨(⟨0, 0, 0, ⟨#[]⟩⟩ : Gt), (⟨xh, xr, xs, xi, xv⟩ : Vt), rfl⟩, KB.out⟩ | exact ⟨⟨(⟨0, 0, 0, ⟨#[]⟩⟩ : Gt), rfl, (⟨xh, xr, xs, xi, xv⟩ : Vt), rfl⟩, KB.out⟩ | exact ⟨⟨(⟨0, 0, 0, ⟨#[]⟩⟩ : Gt), rfl⟩, ⟨(⟨xh, xr, xs, xi, xv⟩ : Vt), rfl⟩, KB.out⟩ | exact ⟨⟨⟨(⟨0, 0, 0, ⟨#[]⟩⟩ : Gt), rfl⟩, ⟨(⟨xh, xr, xs, xi, xv⟩ : Vt), rfl⟩⟩, KB.out⟩ | exact ⟨⟨_, rfl⟩, ⟨_, rfl⟩, KB.out⟩ | done
    · skip
      have cN_0_7 := HN7.out.cell 0 rfl
      have cN_1_7 := HN7.out.cell 1 rfl
      have cN_2_7 := HN7.out.cell 2 rfl
      have cN_3_7 := HN7.out.cell 3 rfl
      go_wp2_with fail
      have HWd := (Below.refl w7.heap.size w7).drew
      have HPd : Hid (Blk w7.drew w.heap.size [.int .i64 0, .int .i64 0, .int .i64 0, .string ⟨#[]⟩] 26) := HP7.out.below HWd HP7.out.lt
      have HTd : Hid (Blk w7.drew (w.heap.size + 1) [.int .i64 0, .int .i64 0, .int .i64 0, .string ⟨#[]⟩, .int .i64 0] 31) := HT7.out.below HWd HT7.out.lt
      have HNd : Hid (Blk w7.drew nG [.int .i64 0, .int .i64 0, .int .i64 0, .string ⟨#[]⟩] 26) := HN7.out.below HWd HN7.out.lt
      have HDd : Hid (DS w7.drew g (g + 1)) := HD7.out.below (HWd.mono (show g + 1 ≤ _ from HD7.out.lt'))
      have HBd : Hid (Below w.heap.size w w7.drew) := HB7.out.trans (HWd.mono HB7.out.size)
      have kG : ∀ W, Calls Try.prog 50 #[.agg #[.int .i64 0, .int .i64 0, .int .i64 0, .string ⟨#[]⟩], .int .i64 2] W fun e w' => e = .returned (.agg #[.int .i64 0, .int .i64 0, .int .i64 0, .string ⟨#[]⟩, .int .i64 2]) ∧ Below W.heap.size W w' := fun W => spec_gvo ⟨0, 0, 0, ⟨#[]⟩⟩ 2 W
      go_region_law (refine step_call2 (by rfl) 50 _ _ _ _ (by rfl) Try.f50 Try.func50 (by kernel_rfl) (by kernel_rfl) _ _ _ (by rfl) (by rfl) _ (kG _) ?_; intro w7 b7; have HP7 : Hid (Blk w7 w.heap.size [.int .i64 0, .int .i64 0, .int .i64 0, .string ⟨#[]⟩] 26) := HPd.out.below b7 HPd.out.lt; have HT7 : Hid (Blk w7 (w.heap.size + 1) [.int .i64 0, .int .i64 0, .int .i64 0, .string ⟨#[]⟩, .int .i64 0] 31) := HTd.out.below b7 HTd.out.lt; have HN7 : Hid (Blk w7 nG [.int .i64 0, .int .i64 0, .int .i64 0, .string ⟨#[]⟩] 26) := HNd.out.below b7 HNd.out.lt; have HB7 : Hid (Below w.heap.size w w7) := HBd.out.trans (b7.mono HBd.out.size); have c7P_0 := HP7.out.cell 0 rfl; have c7P_1 := HP7.out.cell 1 rfl; have c7P_2 := HP7.out.cell 2 rfl; have c7P_3 := HP7.out.cell 3 rfl; have z7P := fun j => HP7.out.frozen j; have c7T_0 := HT7.out.cell 0 rfl; have c7T_1 := HT7.out.cell 1 rfl; have c7T_2 := HT7.out.cell 2 rfl; have c7T_3 := HT7.out.cell 3 rfl; have c7T_4 := HT7.out.cell 4 rfl; have z7T := fun j => HT7.out.frozen j; have c7N_0 := HN7.out.cell 0 rfl; have c7N_1 := HN7.out.cell 1 rfl; have c7N_2 := HN7.out.cell 2 rfl; have c7N_3 := HN7.out.cell 3 rfl; have z7N := fun j => HN7.out.frozen j)
      clear cN_0_7 cN_1_7 cN_2_7 cN_3_7
      all_goals
        have KG1 : Hid (w7.grownBy ((((w7.setCell ⟨w.heap.size, 0, none⟩ (.int .i64 0)).setCell ⟨w.heap.size, 1, none⟩ (.int .i64 0)).setCell ⟨w.heap.size, 2, none⟩ (.int .i64 0)).setCell ⟨w.heap.size, 3, none⟩ (.string ⟨#[]⟩)) (some w.heap.size)) := grown_set (grown_set (grown_set (grown_set (grown_refl _ _) _) _) _) _
        have KG2 : Hid (((((w7.setCell ⟨w.heap.size, 0, none⟩ (.int .i64 0)).setCell ⟨w.heap.size, 1, none⟩ (.int .i64 0)).setCell ⟨w.heap.size, 2, none⟩ (.int .i64 0)).setCell ⟨w.heap.size, 3, none⟩ (.string ⟨#[]⟩)).grownBy (((((((((w7.setCell ⟨w.heap.size, 0, none⟩ (.int .i64 0)).setCell ⟨w.heap.size, 1, none⟩ (.int .i64 0)).setCell ⟨w.heap.size, 2, none⟩ (.int .i64 0)).setCell ⟨w.heap.size, 3, none⟩ (.string ⟨#[]⟩)).setCell ⟨(w.heap.size + 1), 0, none⟩ (.int .i64 0)).setCell ⟨(w.heap.size + 1), 1, none⟩ (.int .i64 0)).setCell ⟨(w.heap.size + 1), 2, none⟩ (.int .i64 0)).setCell ⟨(w.heap.size + 1), 3, none⟩ (.string ⟨#[]⟩)).setCell ⟨(w.heap.size + 1), 4, none⟩ (.int .i64 2)) (some (w.heap.size + 1))) := grown_set (grown_set (grown_set (grown_set (grown_set (grown_refl _ _) _) _) _) _) _
        have K1 : Hid (Blk (((((((((w7.setCell ⟨w.heap.size, 0, none⟩ (.int .i64 0)).setCell ⟨w.heap.size, 1, none⟩ (.int .i64 0)).setCell ⟨w.heap.size, 2, none⟩ (.int .i64 0)).setCell ⟨w.heap.size, 3, none⟩ (.string ⟨#[]⟩)).setCell ⟨(w.heap.size + 1), 0, none⟩ (.int .i64 0)).setCell ⟨(w.heap.size + 1), 1, none⟩ (.int .i64 0)).setCell ⟨(w.heap.size + 1), 2, none⟩ (.int .i64 0)).setCell ⟨(w.heap.size + 1), 3, none⟩ (.string ⟨#[]⟩)).setCell ⟨(w.heap.size + 1), 4, none⟩ (.int .i64 2)) w.heap.size [.int .i64 0, .int .i64 0, .int .i64 0, .string ⟨#[]⟩] 26) := (show Blk ((((w7.setCell ⟨w.heap.size, 0, none⟩ (.int .i64 0)).setCell ⟨w.heap.size, 1, none⟩ (.int .i64 0)).setCell ⟨w.heap.size, 2, none⟩ (.int .i64 0)).setCell ⟨w.heap.size, 3, none⟩ (.string ⟨#[]⟩)) w.heap.size [.int .i64 0, .int .i64 0, .int .i64 0, .string ⟨#[]⟩] 26 from ((((HP7.out.set 0 (.int .i64 0)).set 1 (.int .i64 0)).set 2 (.int .i64 0)).set 3 (.string ⟨#[]⟩))).grown KG2.out (fun e => by injection e with e; omega)
        have K2 : Hid (Blk (((((((((w7.setCell ⟨w.heap.size, 0, none⟩ (.int .i64 0)).setCell ⟨w.heap.size, 1, none⟩ (.int .i64 0)).setCell ⟨w.heap.size, 2, none⟩ (.int .i64 0)).setCell ⟨w.heap.size, 3, none⟩ (.string ⟨#[]⟩)).setCell ⟨(w.heap.size + 1), 0, none⟩ (.int .i64 0)).setCell ⟨(w.heap.size + 1), 1, none⟩ (.int .i64 0)).setCell ⟨(w.heap.size + 1), 2, none⟩ (.int .i64 0)).setCell ⟨(w.heap.size + 1), 3, none⟩ (.string ⟨#[]⟩)).setCell ⟨(w.heap.size + 1), 4, none⟩ (.int .i64 2)) (w.heap.size + 1) [.int .i64 0, .int .i64 0, .int .i64 0, .string ⟨#[]⟩, .int .i64 2] 31) := ((((((HT7.out.grown KG1.out (fun e => by injection e with e; omega)).set 0 (.int .i64 0)).set 1 (.int .i64 0)).set 2 (.int .i64 0)).set 3 (.string ⟨#[]⟩)).set 4 (.int .i64 2))
        have KB : Hid (Below w.heap.size w (((((((((w7.setCell ⟨w.heap.size, 0, none⟩ (.int .i64 0)).setCell ⟨w.heap.size, 1, none⟩ (.int .i64 0)).setCell ⟨w.heap.size, 2, none⟩ (.int .i64 0)).setCell ⟨w.heap.size, 3, none⟩ (.string ⟨#[]⟩)).setCell ⟨(w.heap.size + 1), 0, none⟩ (.int .i64 0)).setCell ⟨(w.heap.size + 1), 1, none⟩ (.int .i64 0)).setCell ⟨(w.heap.size + 1), 2, none⟩ (.int .i64 0)).setCell ⟨(w.heap.size + 1), 3, none⟩ (.string ⟨#[]⟩)).setCell ⟨(w.heap.size + 1), 4, none⟩ (.int .i64 2))) := (HB7.out.grown KG1.out HB7.out.size (fun j e => by injection e with e; omega)).grown KG2.out (Nat.le_trans HB7.out.size KG1.out.size) (fun j e => by injection e with e; omega)
        clear c7P_0 c7P_1 c7P_2 c7P_3 c7T_0 c7T_1 c7T_2 c7T_3 c7T_4 c7N_0 c7N_1 c7N_2 c7N_3 z7P z7T z7N HPd HP7 HTd HT7 HNd HN7 HB7 HBd HDd HWd
        generalize (((((((((w7.setCell ⟨w.heap.size, 0, none⟩ (.int .i64 0)).setCell ⟨w.heap.size, 1, none⟩ (.int .i64 0)).setCell ⟨w.heap.size, 2, none⟩ (.int .i64 0)).setCell ⟨w.heap.size, 3, none⟩ (.string ⟨#[]⟩)).setCell ⟨(w.heap.size + 1), 0, none⟩ (.int .i64 0)).setCell ⟨(w.heap.size + 1), 1, none⟩ (.int .i64 0)).setCell ⟨(w.heap.size + 1), 2, none⟩ (.int .i64 0)).setCell ⟨(w.heap.size + 1), 3, none⟩ (.string ⟨#[]⟩)).setCell ⟨(w.heap.size + 1), 4, none⟩ (.int .i64 2)) = wz at *
        have y0 := K1.out.cell 0 rfl
        have y1 := K1.out.cell 1 rfl
        have y2 := K1.out.cell 2 rfl
        have y3 := K1.out.cell 3 rfl
        have u0 := K2.out.cell 0 rfl
        have u1 := K2.out.cell 1 rfl
        have u2 := K2.out.cell 2 rfl
        have u3 := K2.out.cell 3 rfl
        have u4 := K2.out.cell 4 rfl
        go_wp2
        refine bodyPost_ret (v := .tuple #[.agg #[.int .i64 0, .int .i64 0, .int .i64 0, .string ⟨#[]⟩], .agg #[.int .i64 0, .int .i64 0, .int .i64 0, .string ⟨#[]⟩, .int .i64 2]]) (by simp [results, Try.results20, go_sem, y0, y1, y2, y3, u0, u1, u2, u3, u4]) rfl ?_
        first | exact ⟨(⟨0, 0, 0, ⟨#[]⟩⟩ : Gt), (⟨0, 0, 0, ⟨#[]⟩, 2⟩ : Vt), rfl, KB.out⟩ | exact ⟨⟨(⟨0, 0, 0, ⟨#[]⟩⟩ : Gt), (⟨0, 0, 0, ⟨#[]⟩, 2⟩ : Vt), rfl⟩, KB.out⟩ | exact ⟨⟨(⟨0, 0, 0, ⟨#[]⟩⟩ : Gt), rfl, (⟨0, 0, 0, ⟨#[]⟩, 2⟩ : Vt), rfl⟩, KB.out⟩ | exact ⟨⟨(⟨0, 0, 0, ⟨#[]⟩⟩ : Gt), rfl⟩, ⟨(⟨0, 0, 0, ⟨#[]⟩, 2⟩ : Vt), rfl⟩, KB.out⟩ | exact ⟨⟨⟨(⟨0, 0, 0, ⟨#[]⟩⟩ : Gt), rfl⟩, ⟨(⟨0, 0, 0, ⟨#[]⟩, 2⟩ : Vt), rfl⟩⟩, KB.out⟩ | exact ⟨⟨_, rfl⟩, ⟨_, rfl⟩, KB.out⟩ | done
end Go.Proofs.Ytmjlpdmdpagggaa
