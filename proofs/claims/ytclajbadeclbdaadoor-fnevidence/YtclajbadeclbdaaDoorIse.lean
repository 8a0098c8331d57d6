/- What impl.putBehind and impl.shaEnd answer: bytes laid behind others; what stands behind a text's whole blocks. Conditions: rows that the call owns; texts of at most 1099511627776 bytes. -/
import Derived.Test.YtclajbadeclbdaaDoorIsd
import Derived.Lib.ConvBytes
namespace Go.Proofs.YtclajbadeclbdaaDoor
open Go.RowKit
open Num
set_option linter.unusedVariables false
theorem info5 : (Tryd.prog.info? 5).map (·.size) = some 1 := by kernel_rfl
set_option maxHeartbeats 400000 in
theorem impl_pbg (g g2 k n m c2 : Nat) (a : Int) (ha : a = (k : Int)) (cur cs : List UInt8) (w : World) (hg : Au w g 5 (cur.map u8v)) (hn : cur.length = n)
    (hg2 : ∀ j v, (cs.map u8v)[j]? = some v → w.cell? ((⟨g2, 0, none⟩ : Addr).add j) = some v)
    (hm : cs.length = m) (hkm : k + m ≤ n) (hkn : k < n) (hnn : n ≤ 1099511627776) (B : Nat) (hB : B ≤ g) :
    Calls Tryd.prog 109 #[.slice (some ⟨g, 0, none⟩) n n, .int .i64 a, .slice (some ⟨g2, 0, none⟩) m c2] w fun e w' =>
      e = .returned (.int .i64 (a + (m : Int))) ∧ Au w' g 5 ((splice cur k cs).map u8v) ∧ Below B w w' := by
  subst ha
  have HG : Hid (w.heap[g]? = some (.cells (cur.map u8v).toArray 5 (0, 0))) := hg
  have HG2 : Hid (∀ j v, (cs.map u8v)[j]? = some v → w.cell? ((⟨g2, 0, none⟩ : Addr).add j) = some v) := hg2
  have HN : Hid (cur.length = n) := hn
  have HM : Hid (cs.length = m) := hm
  clear hg hg2 hn hm
  have hlt : (k : Int) < (n : Int) := by omega
  have hcp := run_copy_row (P := Tryd.prog) w 22 22 3 5 g k (n - k) (n - k) ⟨g2, 0, none⟩ m c2 (cur.map u8v).toArray 5 (cs.map u8v) Tryd.underlying22 info5 HG.out (by
      have := HM.out; have h2 : m ≤ n - k := by omega
      simp only [List.length_map, this]; exact (Nat.min_eq_left h2).symm) (fun j v hj => HG2.out j v hj) (by
      have := HM.out; have := HN.out; simp; omega) (u8v_one cs)
  have hlen : (cs.map u8v).length = m := by simpa using HM.out
  rw [hlen] at hcp
  clear hlen
  go_enter Tryd.func109, Tryd.ntmps109
  go_wp2
  go_ret
  refine ⟨rfl, ?_, below_setRow (Below.refl _ _) hB _⟩
  show (w.setRow g _).heap[g]? = _
  rw [setRow_heap w g _ _ 5 _ HG.out]
  simp [splice, HM.out]
/-- What stands behind the whole blocks. -/
def endl (s : List UInt8) : List UInt8 := s.drop (64 * (s.length / 64)) ++ padl s.length 8
theorem text_end (s : List UInt8) : text s = s.take (64 * (s.length / 64)) ++ endl s := by
  rw [text, endl, ← List.append_assoc, List.take_append_drop]
/-- How long that is. -/
def esz (n : Nat) : Nat := if n % 64 ≤ 55 then 64 else 128
theorem length_endl (s : List UInt8) : (endl s).length = esz s.length := by
  unfold endl esz
  rw [List.length_append, length_padl, List.length_drop]
  unfold zs
  split <;> omega
/-- The row behind n bytes of the length. -/
def est (E : List UInt8) (sz n : Nat) : List UInt8 := E.take (sz - 8) ++ (List.replicate (8 - n) 0 ++ E.drop (sz - n))
theorem est_set (E : List UInt8) (sz n : Nat) (x : UInt8) (hE : E.length = sz) (hs : 8 ≤ sz) (hn : n < 8) (hx : E[sz - 1 - n]? = some x) : (est E sz n).set (sz - 1 - n) x = est E sz (n + 1) := by
  have hlt : sz - 1 - n < E.length := by omega
  have hd : E.drop (sz - (n + 1)) = x :: E.drop (sz - n) := by
    rw [show sz - (n + 1) = sz - 1 - n from by omega, List.drop_eq_getElem_cons hlt, (List.getElem?_eq_some_iff.1 hx).2, show sz - 1 - n + 1 = sz - n from by omega]
  have hl : (E.take (sz - 8)).length = sz - 8 := by simp; omega
  unfold est
  rw [hd, List.set_append_right _ _ (by omega), hl, show sz - 1 - n - (sz - 8) = 8 - (n + 1) from by omega, show 8 - n = (8 - (n + 1)) + 1 from by omega, List.replicate_succ', List.append_assoc]
  rw [List.set_append_right _ _ (by simp)]
  simp
theorem est_at (E : List UInt8) (sz n : Nat) (hE : E.length = sz) (hs : 8 ≤ sz) (hn : n < 8) : (est E sz n)[sz - 1 - n]? = some 0 := by
  have hl : (E.take (sz - 8)).length = sz - 8 := by simp; omega
  unfold est
  rw [List.getElem?_append_right (by omega), hl, List.getElem?_append_left (by simp; omega), List.getElem?_replicate, if_pos (by omega)]
theorem est_full (E : List UInt8) (sz : Nat) (hE : E.length = sz) (hs : 8 ≤ sz) : est E sz 8 = E := by
  unfold est
  rw [Nat.sub_self, List.replicate_zero, List.nil_append, List.take_append_drop]
theorem endl_len (s : List UInt8) (n : Nat) (hn : n < 8) : (endl s)[esz s.length - 1 - n]? = some (UInt8.ofNat (s.length * 8 / 2 ^ (8 * n) % 256)) := by
  have h1 : (s.drop (64 * (s.length / 64)) ++ pad1 s.length).length = esz s.length - 8 := by
    have := length_endl s
    rw [endl, padl, ← List.append_assoc, List.length_append] at this
    simp at this ⊢; omega
  have h2 : 8 ≤ esz s.length := by unfold esz; split <;> omega
  rw [endl, padl, ← List.append_assoc, List.getElem?_append_right (by omega), h1, List.getElem?_map, List.getElem?_range (by omega)]
  show some (lenb _ _) = _
  unfold lenb
  rw [show 56 - 8 * (esz s.length - 1 - n - (esz s.length - 8)) = 8 * n from by omega]
theorem est_zero (s : List UInt8) : est (endl s) (esz s.length) 0 = s.drop (64 * (s.length / 64)) ++ 128 :: List.replicate (esz s.length - s.length % 64 - 1) 0 := by
  have h1 : (s.drop (64 * (s.length / 64)) ++ pad1 s.length).length = esz s.length - 8 := by
    have := length_endl s
    rw [endl, padl, ← List.append_assoc, List.length_append] at this
    simp at this ⊢; omega
  have h2 : 8 ≤ esz s.length := by unfold esz; split <;> omega
  have h3 := length_endl s
  unfold est
  rw [List.drop_eq_nil_of_le (by omega), List.append_nil]
  rw [show endl s = (s.drop (64 * (s.length / 64)) ++ pad1 s.length) ++ (List.range 8).map (lenb s.length) from by rw [endl, padl, ← List.append_assoc]]
  rw [List.take_append_of_le_length (by omega), List.take_of_length_le (by omega), List.append_assoc]
  congr 1
  unfold pad1
  rw [List.cons_append, List.replicate_append_replicate]
  congr 2
  unfold esz zs
  split <;> omega
theorem count_byte (N n : Nat) : (N : Int) * 8 / 2 ^ (8 * n) % 256 = (((UInt8.ofNat (N * 8 / 2 ^ (8 * n) % 256)).toNat : Nat) : Int) := by
  rw [of_small _ (Nat.mod_lt _ (by decide)), Int.natCast_emod, Int.natCast_ediv, Int.natCast_mul, Int.natCast_pow]
  rfl
theorem below_bytes {B : Nat} {a w1 : World} (h : Below B a w1) (hB : B ≤ w1.heap.size) (e : TypeId) (X : ByteArray) : Below B a (Lib.bytesWorld w1 e X) :=
  ⟨h.os, h.tape, h.output, by rw [Lib.bytesWorld_size]; have := h.size; omega, fun k hk => (Lib.bytesWorld_at_old w1 e X k (by omega)).trans (h.block k hk)⟩
theorem bytes_cells (w1 : World) (X : ByteArray) : ∀ j v, (X.data.toList.map u8v)[j]? = some v → (Lib.bytesWorld w1 5 X).cell? ((⟨w1.heap.size, 0, none⟩ : Addr).add j) = some v := by
  intro j v hj
  have hlt : j < X.data.toList.length := by have := (List.getElem?_eq_some_iff.1 hj).1; simpa using this
  have hlt' : j < X.size := by rw [Array.length_toList] at hlt; exact hlt
  rw [add_at, Lib.bytesWorld_cell w1 5 X j hlt', ← hj, List.getElem?_map, List.getElem?_eq_getElem hlt, List.getD_eq_getElem?_getD, List.getElem?_eq_getElem hlt]
  rfl
set_option maxHeartbeats 1600000 in
set_option maxRecDepth 100000 in
theorem impl_end (s : ByteArray) (w : World) (hs : s.size ≤ 1099511627776) :
    Calls Tryd.prog 111 #[.string s] w fun e w' => e = .returned (.string ⟨(endl s.data.toList).toArray⟩) ∧ Below w.heap.size w w' := by
  obtain ⟨i0, hi, hz0, hz1, hz2⟩ := info5f
  obtain ⟨l, hl⟩ : ∃ l, l = s.size % 64 := ⟨_, rfl⟩
  obtain ⟨sz, hsz⟩ : ∃ sz, sz = esz s.size := ⟨_, rfl⟩
  have hlm : (s.size : Int).tmod 64 = (l : Int) := by rw [Int.tmod_eq_emod_of_nonneg (by omega)]; omega
  have hl64 : l < 64 := by omega
  obtain ⟨p, hp⟩ : ∃ p, p = s.size - l := ⟨_, rfl⟩
  have hpe : (s.size : Int) - (l : Int) = (p : Int) := by omega
  have hps : (p : Int) ≤ (s.size : Int) := by omega
  have HL : Hid (l = s.size % 64) := hl
  have HP : Hid (p = s.size - l) := hp
  have HSZ : Hid (sz = esz s.size) := hsz
  have hcase : (sz = 64 ∧ l ≤ 55) ∨ (sz = 128 ∧ 55 < l) := by
    rw [hsz, hl]; unfold esz; split <;> omega
  clear hl hsz hp
  rcases hcase with ⟨rfl, hc⟩ | ⟨rfl, hc⟩
  all_goals
    go_enter Tryd.func111, Tryd.ntmps111
    go_wp2_with (at_make; first | (refine wpList_make_full _ rfl _ _ 22 rfl w.heap.size 5 i0 (.int .u8 0) 1 Tryd.underlying22 hi hz0 hz1 _ _ _ _ 64 rfl rfl rfl rfl (by rw [hz2]; omega) (by unfold maxLen; omega) (Nat.le_refl _) ?_; intro w1 hown hgr) | (refine wpList_make_full _ rfl _ _ 22 rfl w.heap.size 5 i0 (.int .u8 0) 1 Tryd.underlying22 hi hz0 hz1 _ _ _ _ 128 rfl rfl rfl rfl (by rw [hz2]; omega) (by unfold maxLen; omega) (Nat.le_refl _) ?_; intro w1 hown hgr))
    have hrow := own_whole hown
    rw [made_zero] at hrow
    have HR : Hid (Au w1 w.heap.size 5 ((List.replicate (esz s.size) (0 : UInt8)).map u8v)) := by rw [← HSZ.out]; exact hrow
    have hb1 := below_of_grown hgr
    clear hown hgr hrow
    have hw1 : w.heap.size < w1.heap.size := HR.out.lt
    obtain ⟨X, hX⟩ : ∃ X, X = s.extract p s.size := ⟨_, rfl⟩
    have hcv := Lib.run_convert_string_bytes (P := Tryd.prog) w1 9 22 5 X Tryd.underlying9 Tryd.underlying22 Tryd.underlying5
    have HXL : Hid (X.data.toList = s.data.toList.drop (64 * (s.size / 64))) := by
      show _ = _
      rw [hX, ByteArray.data_extract, Array.toList_extract, List.extract_eq_take_drop, HP.out, show s.size - l = 64 * (s.size / 64) from by have := HL.out; omega]
      exact List.take_of_length_le (by rw [List.length_drop, Array.length_toList]; exact Nat.le_refl _)
    have HXS : Hid (X.size = l) := by
      show _ = _
      rw [hX, ByteArray.size_extract, HP.out]; have := HL.out; omega
    rw [← hX]
    clear hX
    rw [hcv]
    clear hcv
    rw [HXS.out]
    go_wp2_with fail
    have HR2 : Hid (Au (Lib.bytesWorld w1 5 X) w.heap.size 5 ((List.replicate (esz s.size) (0 : UInt8)).map u8v)) := (Lib.bytesWorld_at_old w1 5 X _ hw1).trans HR.out
    have hb2 : Below w.heap.size w (Lib.bytesWorld w1 5 X) := below_bytes hb1 (by omega) 5 X
    have HXN : Hid (X.data.toList.length = l) := by show _ = _; rw [Array.length_toList]; exact HXS.out
    refine (impl_pbg w.heap.size w1.heap.size 0 _ l _ 0 rfl (List.replicate (esz s.size) 0) X.data.toList _ HR2.out (by rw [List.length_replicate]; exact HSZ.out.symm) (bytes_cells w1 X) HXN.out (by omega) (by omega) (by omega) w.heap.size (Nat.le_refl _)).mono ?_
    rintro e w2 ⟨rfl, hA2, hB2⟩
    have HSP : Hid (splice (List.replicate (esz s.size) (0 : UInt8)) 0 X.data.toList = X.data.toList ++ List.replicate (esz s.size - l) 0) := by
      have h := splice_fill [] X.data.toList 0 (esz s.size) rfl (by rw [HXN.out, ← HSZ.out]; omega)
      rw [List.nil_append, List.nil_append, Nat.sub_zero, HXN.out, Nat.zero_add] at h
      exact h
    have HR3 : Hid (Au w2 w.heap.size 5 ((X.data.toList ++ List.replicate (esz s.size - l) 0).map u8v)) := by
      rw [← HSP.out]; exact hA2
    have hb3 := hb2.trans hB2
    clear hA2 hB2 HSP HR2 hb2 HR hb1 hw1
    go_wp2_with fail
    have HR4 : Hid (Au (w2.alloc (.cells #[.int .u8 128] 5)) w.heap.size 5 ((X.data.toList ++ List.replicate (esz s.size - l) 0).map u8v)) := HR3.out.alloc _
    have hb4 : Below w.heap.size w (w2.alloc (.cells #[.int .u8 128] 5)) := hb3.alloc hb3.size _
    refine (impl_pbg w.heap.size w2.heap.size l _ 1 _ _ rfl (X.data.toList ++ List.replicate (esz s.size - l) 0) [128] _ HR4.out (by rw [List.length_append, List.length_replicate, HXN.out, ← HSZ.out]; omega) (one_cell w2 128 (by decide) (by decide)) rfl (by omega) (by omega) (by omega) w.heap.size (Nat.le_refl _)).mono ?_
    rintro e w3 ⟨rfl, hA3, hB3⟩
    have HSP : Hid (splice (X.data.toList ++ List.replicate (esz s.size - l) (0 : UInt8)) l [128] = est (endl s.data.toList) (esz s.size) 0) := by
      show _ = _
      have h := splice_fill X.data.toList [128] l (esz s.size) HXN.out (by rw [← HSZ.out]; simp; omega)
      have h2 := est_zero s.data.toList
      rw [show s.data.toList.length = s.size from Array.length_toList] at h2
      rw [h, h2, HXL.out, List.append_assoc, ← HL.out]
      rfl
    have HR5 : Hid (Au w3 w.heap.size 5 ((est (endl s.data.toList) (esz s.size) 0).map u8v)) := by
      rw [← HSP.out]; exact hA3
    have hb5 := hb4.trans hB3
    clear hA3 hB3 HSP HR3 HR4 hb3 hb4
    go_wp2
    have HEL : Hid ((endl s.data.toList).length = esz s.size) := by
      show _ = _
      rw [length_endl, Array.length_toList]; rfl
    have HE8 : Hid (8 ≤ esz s.size) := by show _ ≤ _; rw [← HSZ.out]; decide
    go_loopw [38] (fun i wr => ∃ n : Nat, n ≤ 8 ∧ i = .int .i64 n ∧ Hid (Au wr w.heap.size 5 ((est (endl s.data.toList) (esz s.size) n).map u8v)) ∧ Below w.heap.size w wr) (fun i _ => 8 - (intOf i).toNat)
    case atStart => exact ⟨0, by omega, rfl, HR5, hb5⟩
    case round =>
      clear HR5 hb5
      obtain ⟨n, hn, rfl, HR, hb⟩ := hrel
      by_cases hlt : n < 8
      · have cx := HR.out.cell (j := esz s.size - 1 - n) (v := u8v 0) (by rw [List.getElem?_map, est_at _ _ _ HEL.out HE8.out hlt]; rfl)
        have cf := HR.out.frozen (esz s.size - 1 - n)
        have HST : Hid (Au (wr.setCell ⟨w.heap.size, esz s.size - 1 - n, none⟩ (.int .u8 ((s.size : Int) * 8 / 2 ^ (8 * n) % 256))) w.heap.size 5 ((est (endl s.data.toList) (esz s.size) (n + 1)).map u8v)) := by
          have h := HR.out.set (esz s.size - 1 - n) (u8v (UInt8.ofNat (s.size * 8 / 2 ^ (8 * n) % 256)))
          have hx := endl_len s.data.toList n hlt
          rw [show s.data.toList.length = s.size from Array.length_toList] at hx
          rw [← List.map_set, est_set _ _ _ _ HEL.out HE8.out hlt hx] at h
          rw [count_byte s.size n]
          exact h
        have HBS : Hid (Below w.heap.size w (wr.setCell ⟨w.heap.size, esz s.size - 1 - n, none⟩ (.int .u8 ((s.size : Int) * 8 / 2 ^ (8 * n) % 256)))) := hb.setCell (p := ⟨w.heap.size, esz s.size - 1 - n, none⟩) (Nat.le_refl _) _
        rw [← HSZ.out] at cx cf
        go_wp2
        go_roundw
        case rel =>
          have h1 := HST.out
          have h2 := HBS.out
          have hE := HSZ.out
          generalize esz s.size = E at *
          subst hE
          exact ⟨n + 1, by omega, by go_num, h1, h2⟩
        case measure => simp [intOf]; omega
      · obtain rfl : n = 8 := by omega
        have HRE : Hid (Au wr w.heap.size 5 ((endl s.data.toList ++ []).map u8v)) := by
          have h := HR.out
          rw [est_full _ _ HEL.out HE8.out] at h
          rw [List.append_nil]; exact h
        have hcv := run_str_row (P := Tryd.prog) wr 22 9 5 Tryd.underlying22 Tryd.underlying5 Tryd.underlying9 w.heap.size (esz s.size) (endl s.data.toList) [] 5 (0, 0) HRE.out
        rw [HEL.out, ← HSZ.out] at hcv
        go_wp2
        go_ret
        exact ⟨rfl, hb⟩
end Go.Proofs.YtclajbadeclbdaaDoor
