/- What impl.Crc and its helper answer: the sum of the bytes, by the table of sixteen. Conditions: the table holds what the program's text lays. -/
import Derived.Test.YtdpjlfgfacjfeaaDoorRows
import Derived.Test.YtdpjlfgfacjfeaaDoorCrc
import Derived.WalkKit
import Derived.WalkLawsBesides
import Derived.WalkSpells
import Derived.Lib.LaidTab
import Derived.Laws.RangeString
import Derived.Laws.RangeAny
import Derived.DataElems
import Derived.Below
namespace Go.Proofs.YtdpjlfgfacjfeaaDoor
open Go.RowKit
open Num
set_option linter.unusedVariables false
/-- The table's numbers. -/
def tab16 : List Int := [0, 274646895, 549293790, 820201905, 1098587580, 1361435347, 1640403810, 1905808397, 2197175160, 2460548119, 2722870694, 2987750089, 3280807620, 3553878443, 3811616794, 4084100981]
set_option maxRecDepth 100000 in
theorem gTab : Tryd.prog.globalNamed "loop.example/g00946/impl.crcOfFour" = some 0 := by kernel_rfl
set_option maxRecDepth 100000 in
theorem tab_at : ∀ i : Fin 16, tab16.getD i.val 0 = ((csn 4 i.val : Nat) : Int) := by decide
def Tab (w : World) : Prop := ∀ i : Nat, i < 16 → w.cell? ⟨0, i, none⟩ = some (.int .u32 ((csn 4 i : Nat) : Int))
set_option maxRecDepth 100000 in
theorem tab_of {w : World} (h : Lib.TabIs Tryd.prog w "loop.example/g00946/impl.crcOfFour" .u32 tab16) : Tab w := by
  intro i hi
  rw [h.cell gTab i (by simpa [tab16] using hi), tab_at ⟨i, hi⟩]
set_option maxRecDepth 100000 in
theorem half (x : Nat) (hx : x < 4294967296) : bits .xor .u32 ((x / 16 : Nat) : Int) ((csn 4 (x % 16) : Nat) : Int) = ((csn 4 x : Nat) : Int) := by
  rw [u32_xor_nat _ _ (by omega) (csn_lt 4 (by omega)), csn_4 x]
set_option maxRecDepth 100000 in
theorem tm16 (x : Nat) : (x : Int).tmod 16 = ((x % 16 : Nat) : Int) := by rw [Int.tmod_eq_emod_of_nonneg (by omega)]; omega
set_option maxRecDepth 100000 in
theorem crl_append : ∀ (l m : List UInt8) (c : Nat), crl c (l ++ m) = crl (crl c l) m
  | [], m, c => rfl
  | b :: l, m, c => crl_append l m _
set_option maxRecDepth 100000 in
theorem crl_extract (s : ByteArray) (c d e : Nat) (h : d ≤ e) : crl (crl c (s.data.toList.take d)) (s.extract d e).data.toList = crl c (s.data.toList.take e) := by
  rw [← crl_append, ByteArray.data_extract, Array.toList_extract, List.extract_eq_take_drop]
  congr 1
  conv => rhs; rw [show e = d + (e - d) by omega, List.take_add]
set_option maxHeartbeats 400000 in
set_option maxRecDepth 100000 in
theorem impl_over (s : ByteArray) (c0 : Nat) (w : World) (hs : s.size ≤ maxLen) (hc0 : c0 < 4294967296) (hT : Tab w) :
    Calls Tryd.prog 43 #[.int .u32 c0, .string s] w fun e w' => e = .returned (.int .u32 (crl c0 s.data.toList : Nat)) ∧ w' = w := by
  unfold maxLen at hs
  have HT : Hid (Tab w) := hT
  clear hT
  go_enter Tryd.func43, Tryd.ntmps43
  go_wp2
  go_loop [0, 8] (fun c i => ∃ k c' : Nat, k ≤ s.size ∧ i = .int .i64 k ∧ c = .int .u32 c' ∧ c' < 4294967296 ∧ Hid (c' = crl c0 (s.data.toList.take k))) (fun _ i => s.size - (intOf i).toNat)
  case atStart => exact ⟨0, c0, by omega, rfl, rfl, by omega, rfl⟩
  case round =>
    obtain ⟨k, c, hk, rfl, rfl, hc, HC⟩ := hrel
    by_cases hlt : k < s.size
    · have e1 : bits .xor .u32 (c : Int) (s[k].toNat : Int) = ((c ^^^ s[k].toNat : Nat) : Int) := u32_xor_nat c _ (by omega) (by have := s[k].toNat_lt; omega)
      have hx : c ^^^ s[k].toNat < 4294967296 := byte_lt hc s[k]
      have hb : (s[k].toNat : Int) < 256 := by have := s[k].toNat_lt; omega
      have HS : Hid (_ = _) := crl_take s k hlt c0
      rw [← HC.out] at HS
      generalize hxx : c ^^^ s[k].toNat = x at e1 hx HS
      have m1 : (x : Int).tmod 16 = ((x % 16 : Nat) : Int) := tm16 x
      have c1 : w.cell? ⟨0, x % 16, none⟩ = some (.int .u32 ((csn 4 (x % 16) : Nat) : Int)) := HT.out _ (by omega)
      have h1 : bits .xor .u32 ((x : Int) / 16) ((csn 4 (x % 16) : Nat) : Int) = ((csn 4 x : Nat) : Int) := half x hx
      have hy : csn 4 x < 4294967296 := csn_lt 4 hx
      rw [csn_8 x] at HS
      generalize hyy : csn 4 x = y at h1 hy HS
      have m2 : (y : Int).tmod 16 = ((y % 16 : Nat) : Int) := tm16 y
      have c2 : w.cell? ⟨0, y % 16, none⟩ = some (.int .u32 ((csn 4 (y % 16) : Nat) : Int)) := HT.out _ (by omega)
      have h2 : bits .xor .u32 ((y : Int) / 16) ((csn 4 (y % 16) : Nat) : Int) = ((csn 4 y : Nat) : Int) := half y hy
      have hz : csn 4 y < 4294967296 := csn_lt 4 hy
      generalize csn 4 y = z at h2 hz HS
      clear hxx hyy
      generalize csn 4 (x % 16) = t1 at c1 h1
      generalize csn 4 (y % 16) = t2 at c2 h2
      go_wp2
      go_round
      case rel => exact ⟨k + 1, z, by omega, by go_num, rfl, hz, HS.out.symm⟩
      case measure => simp [intOf]; omega
    · obtain rfl : k = s.size := by omega
      have HF : Hid (c = crl c0 s.data.toList) := by
        have h := HC.out
        rw [List.take_of_length_le (by rw [Array.length_toList]; exact Nat.le_refl _)] at h
        exact h
      go_wp2
      go_ret
      exact ⟨by rw [HF.out]; rfl, rfl⟩
set_option maxRecDepth 100000 in
theorem tab_iter {w : World} (h : Tab w) (s : ByteArray) (pos : Nat) : Tab (w.iter s pos) :=
  fun i hi => (World.iter_extends w s pos).cell_of (h i hi)
set_option maxRecDepth 100000 in
theorem below_iter (w : World) (s : ByteArray) (pos : Nat) : Below w.heap.size w (w.iter s pos) := (Below.refl _ _).alloc (Nat.le_refl _) _
set_option maxRecDepth 100000 in
theorem width_pos (s : ByteArray) (pos : Nat) (h : pos < s.size) : 1 ≤ (Utf8.decode s pos).2 := by
  by_cases ha : (s[pos]'h).toNat < 128
  · rw [decode_ascii s pos h ha]
    exact Nat.le_refl _
  · exact (decode_high s pos h (by omega)).2
set_option maxHeartbeats 400000 in
set_option maxRecDepth 100000 in
theorem impl_crc (s : ByteArray) (w : World) (hs : s.size ≤ maxLen) (hT : Tab w) :
    Calls Tryd.prog 28 #[.string s] w fun e w' => e = .returned (.int .i64 (crcN s : Nat)) ∧ Below w.heap.size w w' := by
  unfold maxLen at hs
  have HT : Hid (∀ pos, Tab (w.iter s pos)) := fun pos => tab_iter hT s pos
  clear hT
  go_enter Tryd.func28, Tryd.ntmps28
  go_wp2
  go_loopw [3, 4] (fun c done w' => ∃ (pos d c' : Nat), w' = w.iter s pos ∧ c = .int .u32 c' ∧ done = .int .i64 d ∧ c' < 4294967296 ∧ d ≤ pos ∧ d ≤ s.size ∧ Hid (c' = crl 4294967295 (s.data.toList.take d))) (fun _ _ w' => s.size - w'.iterPos w.heap.size)
  case atStart => exact ⟨0, 0, 4294967295, rfl, rfl, rfl, by omega, by omega, by omega, rfl⟩
  case round =>
    obtain ⟨pos, d, c, rfl, rfl, rfl, hc, hd, hds, HC⟩ := hrel
    by_cases hp : pos < s.size
    · have hnx : ∀ ty, (Instr.next (.pointer (some ⟨w.heap.size, 0, none⟩)) true ty).run Tryd.prog (w.iter s pos) = _ := fun ty => run_next_any w s pos ty hp
      have hwd := width_pos s pos hp
      have HS : Hid (_ = _) := crl_extract s 4294967295 d pos hd
      go_wp2_with fail
      refine (impl_over (s.extract d pos) c _ (by rw [ByteArray.size_extract]; unfold maxLen; omega) hc (HT.out _)).mono ?_
      rintro e w2 ⟨rfl, rfl⟩
      rw [HC.out, HS.out]
      go_wp2
      go_roundw
      case rel => exact ⟨_, pos, _, rfl, rfl, rfl, crl_lt _ (by omega), by omega, by omega, rfl⟩
      case measure =>
        simp
        omega
    · have hnx : ∀ ty, (Instr.next (.pointer (some ⟨w.heap.size, 0, none⟩)) true ty).run Tryd.prog (w.iter s pos) = _ := fun ty => run_next_end w s pos ty hp
      have HS : Hid (_ = _) := crl_extract s 4294967295 d s.size hds
      have hl := crl_lt s.data.toList (c := 4294967295) (by omega)
      have HF : Hid (((4294967295 : Int) - (crl 4294967295 s.data.toList : Nat)) = ((crcN s : Nat) : Int)) := by
        show _ = _
        unfold crcN; omega
      go_wp2_with fail
      refine (impl_over (s.extract d s.size) c _ (by rw [ByteArray.size_extract]; unfold maxLen; omega) hc (HT.out _)).mono ?_
      rintro e w2 ⟨rfl, rfl⟩
      rw [HC.out, HS.out, List.take_of_length_le (by rw [Array.length_toList]; exact Nat.le_refl _)]
      generalize crl 4294967295 s.data.toList = z at hl HF
      go_wp2
      go_ret
      exact ⟨by rw [← HF.out]; rfl, below_iter w s pos⟩
end Go.Proofs.YtdpjlfgfacjfeaaDoor
