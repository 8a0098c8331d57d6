/- The walk of FnSha. Conditions: the table holds what the program's text lays. -/
import Derived.Test.YtddkehbekoogpaaDoorIsf
import Derived.Test.YtddkehbekoogpaaDoorHex
import Derived.Test.YtddkehbekoogpaaDoorDraw
import Derived.Test.YtddkehbekoogpaaDoorSknown
namespace Go.Proofs.YtddkehbekoogpaaDoor
open Go.RowKit
open Num
set_option linter.unusedVariables false
def shaB (x : ByteArray) : ByteArray := ⟨(shal x.data.toList).toArray⟩
def shortB (x : ByteArray) : ByteArray := ⟨((shal x.data.toList).take 8).toArray⟩
def hexB (x : ByteArray) : ByteArray := ⟨(hex x.data.toList).toArray⟩
theorem size_shaB (x : ByteArray) : (shaB x).size = 32 := by
  show (shal x.data.toList).toArray.size = 32
  rw [List.size_toArray, length_shal]
theorem short_shaB (x : ByteArray) : (shaB x).extract 0 8 = shortB x := by
  apply ByteArray.ext
  apply Array.ext'
  simp [shaB, shortB, ByteArray.data_extract, List.extract]
theorem known_abc : hexB (shaB ⟨#[97, 98, 99]⟩) = ⟨#[98, 97, 55, 56, 49, 54, 98, 102, 56, 102, 48, 49, 99, 102, 101, 97, 52, 49, 52, 49, 52, 48, 100, 101, 53, 100, 97, 101, 50, 50, 50, 51, 98, 48, 48, 51, 54, 49, 97, 51, 57, 54, 49, 55, 55, 97, 57, 99, 98, 52, 49, 48, 102, 102, 54, 49, 102, 50, 48, 48, 49, 53, 97, 100]⟩ := by
  unfold hexB shaB
  show ByteArray.mk (hex (shal [97, 98, 99])).toArray = _
  rw [sha_abc]
  rfl
theorem known_empty : hexB (shaB ⟨#[]⟩) = ⟨#[101, 51, 98, 48, 99, 52, 52, 50, 57, 56, 102, 99, 49, 99, 49, 52, 57, 97, 102, 98, 102, 52, 99, 56, 57, 57, 54, 102, 98, 57, 50, 52, 50, 55, 97, 101, 52, 49, 101, 52, 54, 52, 57, 98, 57, 51, 52, 99, 97, 52, 57, 53, 57, 57, 49, 98, 55, 56, 53, 50, 98, 56, 53, 53]⟩ := by
  unfold hexB shaB
  show ByteArray.mk (hex (shal [])).toArray = _
  rw [sha_empty]
  rfl
/-- What holds between the calls. -/
def Sok (w W : World) : Prop := Tab W ∧ Below w.heap.size w W
theorem Sok.step {w W W' : World} (h : Sok w W) (hb : Below W.heap.size W W') : Sok w W' := ⟨h.1.below hb h.1.pos, h.2.trans (hb.mono h.2.size)⟩
theorem Sok.drew {w W : World} (h : Sok w W) : Sok w W.drew := ⟨h.1, h.2.drew⟩
theorem c_impl {w W : World} (x : ByteArray) (hx : x.size ≤ 1099511627776) (h : Sok w W) : Calls Tryd.prog 8 #[.string x] W fun e w' => e = .returned (.string (shaB x)) ∧ Sok w w' :=
  (impl_sha x W hx h.1).mono fun e w' ⟨he, hb⟩ => ⟨he, h.step hb⟩
theorem c_spec {w W : World} (x : ByteArray) (hx : x.size ≤ 1099511627776) (h : Sok w W) : Calls Tryd.prog 10 #[.string x] W fun e w' => e = .returned (.string (shaB x)) ∧ Sok w w' :=
  (spec_sha x W hx).mono fun e w' ⟨he, hb⟩ => ⟨he, h.step hb⟩
theorem c_short {w W : World} (x : ByteArray) (hx : x.size ≤ 1099511627776) (h : Sok w W) : Calls Tryd.prog 11 #[.string x] W fun e w' => e = .returned (.string (shortB x)) ∧ Sok w w' :=
  (impl_short x W hx h.1).mono fun e w' ⟨he, hb⟩ => ⟨he, h.step hb⟩
theorem c_hex {w W : World} (x : ByteArray) (hx : x.size ≤ 1048576) (h : Sok w W) : Calls Tryd.prog 12 #[.string x] W fun e w' => e = .returned (.string (hexB x)) ∧ Sok w w' :=
  (impl_hex x W hx).mono fun e w' ⟨he, hb⟩ => ⟨he, h.step hb⟩
set_option maxHeartbeats 3200000 in
set_option maxRecDepth 100000 in
theorem fn_sha (a : Option Addr) (L : List UInt8) (cap : Nat) (w : World) (hl : CodeAt w w.heap.size a L) (hT : Tab w) (hlen : L.length ≤ 1048576) :
    Calls Tryd.prog 3 #[.slice a L.length cap] w fun e w' => e = .returned (.bool true) ∧ Below w.heap.size w w' := by
  have HL : Hid (CodeAt w w.heap.size a L) := hl
  have HS : Hid (Sok w w) := ⟨hT, Below.refl _ _⟩
  clear hl hT
  obtain ⟨s, hsd⟩ : ∃ s, drawSha L = s := ⟨_, rfl⟩
  have hss : s.size ≤ 140 := by rw [← hsd]; exact size_drawSha L
  have HSD : Hid (drawSha L = s) := hsd
  clear hsd
  have hbig : decide ((1048576 : Int) < (L.length : Int)) = false := by simp; omega
  obtain ⟨k, hk1, hk2⟩ : ∃ k : Nat, (atV L 0).tmod ((s.size : Int) + 1) = (k : Int) ∧ (k : Int) ≤ (s.size : Int) := by
    have hb := atV_bound L 0
    rw [Int.tmod_eq_emod_of_nonneg hb.1]
    have h1 := Int.emod_nonneg (atV L 0) (b := (s.size : Int) + 1) (by omega)
    have h2 := Int.emod_lt_of_pos (atV L 0) (b := (s.size : Int) + 1) (by omega)
    exact ⟨(atV L 0 % ((s.size : Int) + 1)).toNat, by omega, by omega⟩
  have hb0 := atV_bound L 0
  obtain ⟨x, hx⟩ : ∃ x, atV L 1 = x := ⟨_, rfl⟩
  have hx0 : 0 ≤ x := by rw [← hx]; exact (atV_bound L 1).1
  have hx1 : x < 256 := by rw [← hx]; exact (atV_bound L 1).2
  have HX : Hid (atV L 1 = x) := hx
  clear hx
  have ew : IntKind.u8.wrap x = x := by simp [IntKind.wrap, IntKind.bits, IntKind.signed]; omega
  go_enter Tryd.func3, Tryd.ntmps3
  go_wp2_with fail
  refine (big_any a L.length cap _ (by omega)).mono ?_
  rintro e w0 ⟨rfl, rfl⟩
  rw [hbig]
  go_wp2_with fail
  refine (drawSha_any a L cap _ HL.out hlen).mono ?_
  rintro e w1 ⟨rfl, hb1⟩
  rw [HSD.out]
  have HL1 : Hid (CodeAt w1 w1.heap.size a L) := code_below HL.out hb1
  have HS1 : Hid (Sok w0 w1) := HS.out.step hb1
  clear hb1
  go_wp2_with fail
  refine (impl_sha s w1 (by omega) HS1.out.1).mono ?_
  rintro e w2 ⟨rfl, hb2⟩
  rw [show (⟨(shal s.data.toList).toArray⟩ : ByteArray) = shaB s from rfl]
  have HL2 : Hid (CodeAt w2 w2.heap.size a L) := code_below HL1.out hb2
  have HS2 : Hid (Sok w0 w2) := HS1.out.step hb2
  clear hb2 HL1 HS1
  go_wp2_with fail
  refine (at_0 a L cap w2 HL2.out hlen).mono ?_
  rintro e w3 ⟨rfl, rfl⟩
  have HL3 : Hid (CodeAt w3.drew w3.drew.heap.size a L) := HL2.out
  have hcv := run_str_one (P := Tryd.prog) w3.drew 22 9 5 Tryd.underlying22 Tryd.underlying5 Tryd.underlying9 x hx0 hx1
  have hcv' : (convert 22 9 (.slice (some ⟨w3.heap.size, 0, none⟩) 1 1)).run Tryd.prog (w3.alloc (.cells #[.int .u8 x] 5)).drew = .ok (.string ⟨#[UInt8.ofNat x.toNat]⟩) (w3.alloc (.cells #[.int .u8 x] 5)).drew := hcv
  clear hcv
  have z1 : (s.extract 0 k).size ≤ 140 := by rw [ByteArray.size_extract]; omega
  have z2 : (s.extract k s.size).size ≤ 140 := by rw [ByteArray.size_extract]; omega
  go_wp2
  go_region_with ((go_at_call 9; refine (at_1 a L cap _ HL3.out hlen).mono ?_; rw [HX.out]; rintro e w' ⟨rfl, rfl⟩))
  have HS4 : Hid (Sok w0 (w3.alloc (.cells #[.int .u8 x] 5)).drew) := (HS2.out.step ((Below.refl _ _).alloc (Nat.le_refl _) _)).drew
  obtain ⟨T, hT⟩ : ∃ T, T = s.extract 0 k ++ ⟨#[UInt8.ofNat x.toNat]⟩ ++ s.extract k s.size := ⟨_, rfl⟩
  have hTs : T.size ≤ 1099511627776 := by
    rw [hT, ByteArray.size_append, ByteArray.size_append]
    show _ + 1 + _ ≤ _
    omega
  rw [← hT]
  generalize (w3.alloc (.cells #[.int .u8 x] 5)).drew = W4 at *
  have hss2 : s.size ≤ 1099511627776 := by omega
  have q1 : (shaB s).size = 32 := size_shaB s
  have q2 : (shaB s).extract 0 8 = shortB s := short_shaB s
  have q3 := known_abc
  have q4 := known_empty
  have q5 : (⟨#[97, 98, 99]⟩ : ByteArray).size ≤ 1099511627776 := by decide
  have q6 : (⟨#[]⟩ : ByteArray).size ≤ 1099511627776 := by decide
  have q7 : (shaB ⟨#[97, 98, 99]⟩).size ≤ 1048576 := by rw [size_shaB]; decide
  have q8 : (shaB ⟨#[]⟩).size ≤ 1048576 := by rw [size_shaB]; decide
  clear hT hcv' z1 z2 HL3 HL2 HS2 HL hk1 hk2 hb0 HX ew hx0 hx1 hbig HSD HS
  go_wp2
  go_region_held3 (fun W : World => Sok w0 W) (first | exact HS4.out | exact HS4.out.drew | assumption) (first | (go_at_call 8; refine (c_impl _ (by assumption) (by assumption)).mono ?_; rintro e w' ⟨rfl, hw'⟩) | (go_at_call 10; refine (c_spec _ (by assumption) (by assumption)).mono ?_; rintro e w' ⟨rfl, hw'⟩) | (go_at_call 11; refine (c_short _ (by assumption) (by assumption)).mono ?_; rintro e w' ⟨rfl, hw'⟩) | (go_at_call 12; refine (c_hex _ (by assumption) (by assumption)).mono ?_; rintro e w' ⟨rfl, hw'⟩))
  all_goals
    have HE : Hid (Below w0.heap.size w0 w') := hw'.2
    clear q1 q2 q3 q4 q5 q6 q7 q8
    go_wp2
    go_ret
    exact ⟨rfl, HE.out⟩
set_option maxHeartbeats 400000 in
theorem fn_big (a : Option Addr) (len cap : Nat) (w : World) (hm : len ≤ 9223372036854775807) (hlen : 1048576 < len) :
    Calls Tryd.prog 3 #[.slice a len cap] w fun e w' => e = .returned (.bool true) ∧ Below w.heap.size w w' := by
  have hbig : decide ((1048576 : Int) < (len : Int)) = true := by simp; omega
  go_enter Tryd.func3, Tryd.ntmps3
  go_wp2_with fail
  refine (big_any a len cap _ hm).mono ?_
  rintro e w0 ⟨rfl, rfl⟩
  rw [hbig]
  go_wp2
  go_ret
  exact ⟨rfl, Below.refl _ _⟩
theorem fn_sha_all (a : Option Addr) (L : List UInt8) (cap : Nat) (w : World) (hl : CodeAt w w.heap.size a L) (hT : Tab w) (hm : L.length ≤ 9223372036854775807) :
    Calls Tryd.prog 3 #[.slice a L.length cap] w fun e w' => e = .returned (.bool true) ∧ Below w.heap.size w w' := by
  by_cases h : L.length ≤ 1048576
  · exact fn_sha a L cap w hl hT h
  · exact fn_big a L.length cap w hm (by omega)
end Go.Proofs.YtddkehbekoogpaaDoor
