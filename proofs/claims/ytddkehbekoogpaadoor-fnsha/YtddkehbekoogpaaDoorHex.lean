/- What impl.Hex answers: two digits of each byte, at strings of at most 1048576 bytes; old memory stays. -/
import Derived.Test.YtddkehbekoogpaaDoorIse
import Derived.Deep.RegionLaw
import Derived.Deep.RegionHeld3
import Derived.Deep.AppendLies
namespace Go.Proofs.YtddkehbekoogpaaDoor
open Go.RowKit
open Num
set_option linter.unusedVariables false
def hexd (k : Int) : UInt8 := if k < 10 then UInt8.ofNat (48 + k).toNat else UInt8.ofNat (87 + k).toNat
def hex : List UInt8 → List UInt8
  | [] => []
  | c :: l => hexd ((c.toNat : Int) / 16) :: hexd ((c.toNat : Int) % 16) :: hex l
theorem hex_snoc (c : UInt8) : ∀ l, hex (l ++ [c]) = hex l ++ [hexd ((c.toNat : Int) / 16), hexd ((c.toNat : Int) % 16)]
  | [] => rfl
  | d :: l => by simp [hex, hex_snoc c l]
theorem length_hex : ∀ l, (hex l).length = 2 * l.length
  | [] => rfl
  | d :: l => by simp [hex, length_hex l]; omega
theorem two_cell (w : World) (x y : UInt8) : ∀ j u, ([x, y].map u8v)[j]? = some u → (w.alloc (.cells #[.int .u8 (x.toNat : Int), .int .u8 (y.toNat : Int)] 5)).cell? ((⟨w.heap.size, 0, none⟩ : Addr).add j) = some u := by
  intro j u hj
  rw [add_at, cell_of_row _ _ j #[.int .u8 (x.toNat : Int), .int .u8 (y.toNat : Int)] 5 (0, 0) (heap_alloc_new w _)]
  simpa [u8v] using hj
theorem byte_i64 (c : UInt8) : IntKind.i64.wrap (c.toNat : Int) = (c.toNat : Int) := by
  have := c.toNat_lt
  rw [IntKind.wrap_i64]; omega
theorem byte_tdiv (c : UInt8) : ((c.toNat : Int)).tdiv 16 = (c.toNat : Int) / 16 := Int.tdiv_eq_ediv_of_nonneg (by omega)
theorem byte_tmod (c : UInt8) : ((c.toNat : Int)).tmod 16 = (c.toNat : Int) % 16 := Int.tmod_eq_emod_of_nonneg (by omega)
theorem byte_wdiv (c : UInt8) : IntKind.i64.wrap ((c.toNat : Int) / 16) = (c.toNat : Int) / 16 := by
  have := c.toNat_lt
  rw [IntKind.wrap_i64]; omega
theorem byte_wmod (c : UInt8) : IntKind.i64.wrap ((c.toNat : Int) % 16) = (c.toNat : Int) % 16 := by
  have := c.toNat_lt
  rw [IntKind.wrap_i64]; omega
theorem byte_u8div (c : UInt8) : IntKind.u8.wrap ((c.toNat : Int) / 16) = (c.toNat : Int) / 16 := by
  have := c.toNat_lt
  simp [IntKind.wrap, IntKind.signed, IntKind.bits]; omega
theorem byte_u8mod (c : UInt8) : IntKind.u8.wrap ((c.toNat : Int) % 16) = (c.toNat : Int) % 16 := by
  have := c.toNat_lt
  simp [IntKind.wrap, IntKind.signed, IntKind.bits]; omega
theorem hexix (x : Int) (h0 : 0 ≤ x) (h1 : x < 16) (h : x.toNat < (ByteArray.mk #[48, 49, 50, 51, 52, 53, 54, 55, 56, 57, 97, 98, 99, 100, 101, 102]).size) :
    (ByteArray.mk #[48, 49, 50, 51, 52, 53, 54, 55, 56, 57, 97, 98, 99, 100, 101, 102])[x.toNat]'h = hexd x := by
  rcases (show x = 0 ∨ x = 1 ∨ x = 2 ∨ x = 3 ∨ x = 4 ∨ x = 5 ∨ x = 6 ∨ x = 7 ∨ x = 8 ∨ x = 9 ∨ x = 10 ∨ x = 11 ∨ x = 12 ∨ x = 13 ∨ x = 14 ∨ x = 15 from by omega) with rfl | rfl | rfl | rfl | rfl | rfl | rfl | rfl | rfl | rfl | rfl | rfl | rfl | rfl | rfl | rfl <;> rfl
theorem hexix_div (c : UInt8) (h : ((c.toNat : Int) / 16).toNat < (ByteArray.mk #[48, 49, 50, 51, 52, 53, 54, 55, 56, 57, 97, 98, 99, 100, 101, 102]).size) :
    (ByteArray.mk #[48, 49, 50, 51, 52, 53, 54, 55, 56, 57, 97, 98, 99, 100, 101, 102])[((c.toNat : Int) / 16).toNat]'h = hexd ((c.toNat : Int) / 16) :=
  hexix _ (by omega) (by have := c.toNat_lt; omega) h
theorem hexix_mod (c : UInt8) (h : ((c.toNat : Int) % 16).toNat < (ByteArray.mk #[48, 49, 50, 51, 52, 53, 54, 55, 56, 57, 97, 98, 99, 100, 101, 102]).size) :
    (ByteArray.mk #[48, 49, 50, 51, 52, 53, 54, 55, 56, 57, 97, 98, 99, 100, 101, 102])[((c.toNat : Int) % 16).toNat]'h = hexd ((c.toNat : Int) % 16) :=
  hexix _ (by omega) (by omega) h
theorem len_toList' (s : ByteArray) : s.data.toList.length = s.size := by rw [Array.length_toList]; rfl
theorem impl_pb' (g g2 k n m : Nat) (a : Int) (ha : a = (k : Int)) (cur cs : List UInt8) (w : World) (hg : w.heap[g]? = some (.cells (cur.map u8v).toArray 5 (0, 0))) (hn : cur.length = n) (hg2 : w.heap[g2]? = some (.cells (cs.map u8v).toArray 5 (0, 0)))
    (hm : cs.length = m) (hkm : k + m ≤ n) (hm1 : 1 ≤ m) (hnn : n ≤ 1099511627776) (B : Nat) (hB : B ≤ g) :
    Calls Tryd.prog 19 #[.slice (some ⟨g, 0, none⟩) n n, .int .i64 a, .slice (some ⟨g2, 0, none⟩) m m] w fun e w' =>
      e = .returned (.int .i64 (a + (m : Int))) ∧ w'.heap[g]? = some (.cells ((splice cur k cs).map u8v).toArray 5 (0, 0)) ∧ Below B w w' :=
  impl_pbg g g2 k n m m a ha cur cs w hg hn (fun j v hj => by rw [add_at, cell_of_row w g2 j _ 5 (0, 0) hg2]; simpa using hj) hm hkm (by omega) hnn B hB
theorem row_hex {s : ByteArray} {k : Nat} (h : k < s.size) {w : World} {g : Nat} (ho : w.heap[g]? = some (.cells ((splice (hex (s.data.toList.take k) ++ List.replicate (2 * s.size - 2 * k) 0) (2 * k) [hexd ((s[k].toNat : Int) / 16), hexd ((s[k].toNat : Int) % 16)]).map u8v).toArray 5 (0, 0))) :
    w.heap[g]? = some (.cells ((hex (s.data.toList.take (k + 1)) ++ List.replicate (2 * s.size - 2 * (k + 1)) 0).map u8v).toArray 5 (0, 0)) := by
  have := len_toList' s
  rw [ho, splice_fill _ _ (2 * k) (2 * s.size) (by simp [length_hex]; omega) (by simp; omega), take_snoc s k h, hex_snoc]
  rfl
section
attribute [local go_sem] byte_i64 byte_tdiv byte_tmod byte_wdiv byte_wmod byte_u8div byte_u8mod hexix_div hexix_mod
set_option maxHeartbeats 800000 in
set_option maxRecDepth 100000 in
theorem impl_hex (s : ByteArray) (w : World) (hs : s.size ≤ 1048576) :
    Calls Tryd.prog 12 #[.string s] w fun e w' => e = .returned (.string ⟨(hex s.data.toList).toArray⟩) ∧ Below w.heap.size w w' := by
  obtain ⟨i0, hi, hz0, hz1, hz2⟩ := info5f
  go_enter Tryd.func12, Tryd.ntmps12
  go_wp2_with (at_make; refine wpList_make_full _ rfl _ _ 22 rfl w.heap.size 5 i0 (.int .u8 0) 1 Tryd.underlying22 hi hz0 hz1 _ _ _ _ (2 * s.size) rfl rfl (by omega) (by omega) (by rw [hz2]; omega) (by unfold maxLen; omega) (Nat.le_refl _) ?_; intro w1 hown hgr)
  have hrow := own_whole hown
  rw [made_zero] at hrow
  have HR : Hid (_ = _) := hrow
  have hb1 := below_of_grown hgr
  clear hown hgr hrow
  go_loopw [4, 12] (fun at_ i wr => ∃ k : Nat, k ≤ s.size ∧ i = .int .i64 k ∧ at_ = .int .i64 ((2 * k : Nat) : Int) ∧ Hid (wr.heap[w.heap.size]? = some (.cells ((hex (s.data.toList.take k) ++ List.replicate (2 * s.size - 2 * k) 0).map u8v).toArray 5 (0, 0))) ∧ Below w.heap.size w wr) (fun _ i _ => s.size - (intOf i).toNat)
  case atStart => exact ⟨0, by omega, rfl, rfl, HR, hb1⟩
  case round =>
    clear HR hb1 w1
    obtain ⟨k, hk, rfl, rfl, HR, hb⟩ := hrel
    have hsz : w.heap.size < wr.heap.size := (Array.getElem?_eq_some_iff.1 HR.out).1
    by_cases hlt : k < s.size
    · have hbb : (s[k].toNat : Int) < 256 := by have := s[k].toNat_lt; omega
      have hki : (k : Int) < (s.size : Int) := by omega
      have hk0 : (0 : Int) ≤ (k : Int) := by omega
      have HLL : Hid (_ = _) := show (hex (s.data.toList.take k) ++ List.replicate (2 * s.size - 2 * k) (0 : UInt8)).length = 2 * s.size by
        have := len_toList' s
        simp [length_hex]; omega
      go_wp2
      go_region_held3 (fun _ => True) (exact trivial) ((go_at_call 19; refine (impl_pb' w.heap.size wr.heap.size (2 * k) (2 * s.size) 2 _ (by omega) (hex (s.data.toList.take k) ++ List.replicate (2 * s.size - 2 * k) 0) [hexd ((s[k].toNat : Int) / 16), hexd ((s[k].toNat : Int) % 16)] _ ?_ HLL.out ?_ rfl (by omega) (by omega) (by omega) w.heap.size (Nat.le_refl _)).mono ?_; (show (wr.alloc _).heap[_]? = _); (rw [Below.heap_alloc _ _ _ hsz]); (exact HR.out); (exact heap_alloc_new wr _); (rintro e w2 ⟨rfl, hr2, hb2⟩)))
      all_goals
        have HR2 : Hid (_) := row_hex hlt hr2
        have hb3 := (hb.alloc hb.size _).drew.trans hb2
        clear hr2 hbb hb2
        go_wp2
        go_roundw
        case rel => exact ⟨k + 1, by omega, by go_num, by go_num, HR2, hb3⟩
        case measure => simp [intOf]; omega
    · have hkm : k = s.size := by omega
      subst hkm
      have HK : Hid (s.data.toList.take s.size = s.data.toList) := List.take_of_length_le (by rw [len_toList']; omega)
      have hcv := run_str_row (P := Tryd.prog) wr 22 9 5 Tryd.underlying22 Tryd.underlying5 Tryd.underlying9 w.heap.size (2 * s.size) (hex s.data.toList) _ 5 (0, 0) (by
        have := HR.out; rw [HK.out] at this; exact this)
      rw [length_hex, len_toList'] at hcv
      go_wp2
      go_ret
      exact ⟨rfl, hb⟩
end
end Go.Proofs.YtddkehbekoogpaaDoor
