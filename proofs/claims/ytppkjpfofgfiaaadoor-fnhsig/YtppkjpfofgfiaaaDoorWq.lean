/- The walk of FnHsig, over whatever the program's own functions are proved to answer (T: what they ask of a world, kept wherever old memory is). -/
import Derived.Test.YtppkjpfofgfiaaaDoorCd
import Derived.Test.YtppkjpfofgfiaaaDoorHnum
import Derived.Test.YtppkjpfofgfiaaaDoorBits
import Derived.Deep.CutRange
import Derived.Deep.RegionHeld3
namespace Go.Proofs.YtppkjpfofgfiaaaDoor
open Go.RowKit
open Num
set_option linter.unusedVariables false
def CHr (F : Nat) (T : World → Prop) : Prop := ∀ (x : ByteArray) (W : World), x.size ≤ 1000 → T W → Calls Tryd.prog F #[.string x] W fun e w' => e = .returned (.string (hRoot x)) ∧ Below W.heap.size W w'
def CHs (F : Nat) (T : World → Prop) : Prop := ∀ (x m : ByteArray) (l : Int) (W : World), -9223372036854775808 ≤ l → l ≤ 9223372036854775807 → x.size ≤ 1000 → m.size ≤ 1000 → T W → Calls Tryd.prog F #[.string x, .int .i64 l, .string m] W fun e w' => e = .returned (.string (signI x l m)) ∧ Below W.heap.size W w'
def CHc (F : Nat) (T : World → Prop) : Prop := ∀ (r m s : ByteArray) (W : World), r.size ≤ 1000 → m.size ≤ 1000 → s.size ≤ 1000 → T W → Calls Tryd.prog F #[.string r, .string m, .string s] W fun e w' => e = .returned (.bool (hCheck r m s)) ∧ Below W.heap.size W w'
theorem signI_four (x m : ByteArray) : signI x 4 m = ⟨#[]⟩ := by
  unfold signI; rw [if_neg (by omega)]
theorem signI_at (x m : ByteArray) (l : Nat) (h : l < 4) : signI x (l : Int) m = hSign x l m := by
  unfold signI; rw [if_pos (by omega)]; rfl
theorem list_comm (a b : ByteArray) : (a.toList == b.toList) = (b.toList == a.toList) := by
  rcases h : (b.toList == a.toList) with _ | _
  · simp at h ⊢; exact fun e => h e.symm
  · simp at h ⊢; exact h.symm
theorem code_drew {w : World} {a : Option Addr} {L : List UInt8} (h : CodeAt w w.heap.size a L) : CodeAt w.drew w.drew.heap.size a L := h
theorem code_new {w : World} {a : Option Addr} {L : List UInt8} (h : CodeAt w w.heap.size a L) (o : Obj) : CodeAt (w.alloc o) (w.alloc o).heap.size a L := code_below h ((Below.refl _ _).alloc (Nat.le_refl _) o)
set_option maxHeartbeats 3200000 in
set_option maxRecDepth 100000 in
theorem w_hsig (T : World → Prop) (cR : CHr 12 T) (cr : CHr 14 T) (cS : CHs 13 T) (cC : CHc 15 T) (cc : CHc 16 T) (a : Option Addr) (L : List UInt8) (cap : Nat) (w : World) (hl : CodeAt w w.heap.size a L) (hlen : L.length ≤ 1048576) (hT : ∀ W, Below w.heap.size w W → T W) :
    Calls Tryd.prog 3 #[.slice a L.length cap] w fun e w' => e = .returned (.bool true) ∧ Below w.heap.size w w' := by
  have HR : Hid (CHr 12 T) := cR
  have Hr : Hid (CHr 14 T) := cr
  have HS : Hid (CHs 13 T) := cS
  have HC : Hid (CHc 15 T) := cC
  have Hc : Hid (CHc 16 T) := cc
  have HT : Hid (∀ W, Below w.heap.size w W → T W) := hT
  have HL : Hid (CodeAt w w.heap.size a L) := hl
  have hbig : decide ((1048576 : Int) < (L.length : Int)) = false := by simp; omega
  clear cR cr cS cC cc hT hl
  have hat : ∀ i : Nat, i ≤ 1000 → Hid (∀ W : World, CodeAt W W.heap.size a L → Calls Tryd.prog 11 #[.slice a L.length cap, .int .i64 (i : Int)] W fun e w' => e = .returned (.int .i64 (atV L i)) ∧ w' = W) := fun i hi W hW => at_any a L cap i W hW hlen hi
  have A0 := hat 0 (by omega)
  have A1 := hat 1 (by omega)
  have A2 := hat 2 (by omega)
  have A3 := hat 3 (by omega)
  have A4 := hat 4 (by omega)
  have A5 := hat 5 (by omega)
  have B0 := atV_bound L 0
  have B1 := atV_bound L 1
  have B2 := atV_bound L 2
  have B3 := atV_bound L 3
  have B4 := atV_bound L 4
  have B5 := atV_bound L 5
  clear hat
  generalize atV L 0 = x0 at A0 B0
  generalize atV L 1 = x1 at A1 B1
  generalize atV L 2 = x2 at A2 B2
  generalize atV L 3 = x3 at A3 B3
  generalize atV L 4 = x4 at A4 B4
  generalize atV L 5 = x5 at A5 B5
  have u8w : ∀ x : Int, 0 ≤ x → x < 256 → IntKind.u8.wrap x = x := fun x h0 h1 => by simp [IntKind.wrap, IntKind.bits, IntKind.signed]; omega
  have e0 := u8w x0 B0.1 B0.2
  have e1 := u8w x1 B1.1 B1.2
  have e2 := u8w x2 B2.1 B2.2
  have m0 : x0 % 256 = x0 := by omega
  have m1 : x1 % 256 = x1 := by omega
  have m2 : x2 % 256 = x2 := by omega
  have c1 := fun W : World => run_str_one (P := Tryd.prog) W 22 9 5 Tryd.underlying22 Tryd.underlying5 Tryd.underlying9 x0 B0.1 B0.2
  have c2 := fun W : World => run_str_two (P := Tryd.prog) W 22 9 5 Tryd.underlying22 Tryd.underlying5 Tryd.underlying9 x1 x2 B1.1 B1.2 B2.1 B2.2
  obtain ⟨l, hl4, hl⟩ : ∃ l : Nat, l < 4 ∧ x3.tmod 4 = (l : Int) := ⟨(x3 % 4).toNat, by omega, by rw [Int.tmod_eq_emod_of_nonneg B3.1]; omega⟩
  obtain ⟨S, hS⟩ : ∃ S : ByteArray, S = ⟨#[UInt8.ofNat x0.toNat]⟩ := ⟨_, rfl⟩
  obtain ⟨M, hM⟩ : ∃ M : ByteArray, M = ⟨#[UInt8.ofNat x1.toNat, UInt8.ofNat x2.toNat]⟩ := ⟨_, rfl⟩
  have zS : S.size = 1 := by rw [hS]; rfl
  have zM : M.size = 2 := by rw [hM]; rfl
  rw [← hS] at c1
  rw [← hM] at c2
  clear hS hM
  obtain ⟨R, hR⟩ : ∃ R, R = hRoot S := ⟨_, rfl⟩
  obtain ⟨G, hG⟩ : ∃ G, G = hSign S l M := ⟨_, rfl⟩
  have zR : R.size = 32 := by rw [hR]; exact size_hRoot S
  have zG : G.size = 153 := by rw [hG]; exact size_sign S M l hl4
  have HR1 : Hid (∀ W, T W → Calls Tryd.prog 12 #[.string S] W fun e w' => e = .returned (.string R) ∧ Below W.heap.size W w') := fun W hW => by rw [hR]; exact HR.out S W (by omega) hW
  have Hr1 : Hid (∀ W, T W → Calls Tryd.prog 14 #[.string S] W fun e w' => e = .returned (.string R) ∧ Below W.heap.size W w') := fun W hW => by rw [hR]; exact Hr.out S W (by omega) hW
  have HS1 : Hid (∀ W, T W → Calls Tryd.prog 13 #[.string S, .int .i64 (l : Int), .string M] W fun e w' => e = .returned (.string G) ∧ Below W.heap.size W w') := fun W hW => by
    have := HS.out S M (l : Int) W (by omega) (by omega) (by omega) (by omega) hW
    rw [signI_at S M l hl4, ← hG] at this; exact this
  have HS4 : Hid (∀ W, T W → Calls Tryd.prog 13 #[.string S, .int .i64 4, .string M] W fun e w' => e = .returned (.string ⟨#[]⟩) ∧ Below W.heap.size W w') := fun W hW => by
    have := HS.out S M 4 W (by omega) (by omega) (by omega) (by omega) hW
    rw [signI_four] at this; exact this
  have own : hCheck R M G = true := by rw [hR, hG]; exact check_own S M l hl4
  obtain ⟨A, hA⟩ : ∃ A, A = hRoot (S ++ ⟨#[120]⟩) := ⟨_, rfl⟩
  have zA : A.size = 32 := by rw [hA]; exact size_hRoot _
  have Hr2 : Hid (∀ W, T W → Calls Tryd.prog 14 #[.string (S ++ ⟨#[120]⟩)] W fun e w' => e = .returned (.string A) ∧ Below W.heap.size W w') := fun W hW => by rw [hA]; exact Hr.out _ W (by rw [ByteArray.size_append]; show _ + 1 ≤ _; omega) hW
  have hAw : hCheck A M G = (A.toList == R.toList) := by rw [hR, hG, check_sign S M l hl4 A]; exact list_comm _ _
  obtain ⟨q, hq⟩ : ∃ q, q = (A.toList == R.toList) := ⟨_, rfl⟩
  rw [← hq] at hAw
  have hq2 : (A.toList == R.toList) = q := hq.symm
  have HC1 : Hid (∀ W, T W → Calls Tryd.prog 15 #[.string R, .string M, .string G] W fun e w' => e = .returned (.bool true) ∧ Below W.heap.size W w') := fun W hW => by
    have := HC.out R M G W (by omega) (by omega) (by omega) hW
    rw [own] at this; exact this
  have Hc1 : Hid (∀ W, T W → Calls Tryd.prog 16 #[.string R, .string M, .string G] W fun e w' => e = .returned (.bool true) ∧ Below W.heap.size W w') := fun W hW => by
    have := Hc.out R M G W (by omega) (by omega) (by omega) hW
    rw [own] at this; exact this
  have HC2 : Hid (∀ W, T W → Calls Tryd.prog 15 #[.string A, .string M, .string G] W fun e w' => e = .returned (.bool q) ∧ Below W.heap.size W w') := fun W hW => by
    have := HC.out A M G W (by omega) (by omega) (by omega) hW
    rw [hAw] at this; exact this
  have hRR : (R.toList != R.toList) = false := by simp
  have hb1 : ¬ 9223372036854775807 < S.size + (⟨#[120]⟩ : ByteArray).size := by rw [zS]; decide
  clear hq hAw own hA hR hG HR Hr HS
  go_enter Tryd.func3, Tryd.ntmps3
  go_wp2_with fail
  refine (big_any a L.length cap _ (by omega)).mono ?_
  rintro e w0 ⟨rfl, rfl⟩
  rw [hbig]
  go_wp2_with fail
  refine (A0.out w0 HL.out).mono ?_
  rintro e w1 ⟨rfl, rfl⟩
  go_wp2_with fail
  have HL1 : Hid (CodeAt (w1.alloc (.cells #[.int .u8 x0] 5)) (w1.alloc (.cells #[.int .u8 x0] 5)).heap.size a L) := code_new HL.out _
  have HB1 : Hid (Below w1.heap.size w1 (w1.alloc (.cells #[.int .u8 x0] 5))) := (Below.refl _ _).alloc (Nat.le_refl _) _
  generalize w1.alloc (.cells #[.int .u8 x0] 5) = w2 at *
  refine (A1.out w2 HL1.out).mono ?_
  rintro e w3 ⟨rfl, rfl⟩
  go_wp2_with fail
  refine (A2.out w3 HL1.out).mono ?_
  rintro e w4 ⟨rfl, rfl⟩
  go_wp2_with fail
  have HL2 : Hid (CodeAt (w4.alloc (.cells #[.int .u8 x1, .int .u8 x2] 5)) (w4.alloc (.cells #[.int .u8 x1, .int .u8 x2] 5)).heap.size a L) := code_new HL1.out _
  have HB2 : Hid (Below w1.heap.size w1 (w4.alloc (.cells #[.int .u8 x1, .int .u8 x2] 5))) := HB1.out.alloc HB1.out.size _
  generalize w4.alloc (.cells #[.int .u8 x1, .int .u8 x2] 5) = w5 at *
  clear HB1 HL1 c1 c2 e0 e1 e2 m0 m1 m2
  refine (A3.out w5 HL2.out).mono ?_
  rintro e w6 ⟨rfl, rfl⟩
  go_wp2_with fail
  refine (HR1.out w6 (HT.out _ HB2.out)).mono ?_
  rintro e w7 ⟨rfl, hb7⟩
  have HB7 : Hid (Below w1.heap.size w1 w7) := HB2.out.trans (hb7.mono HB2.out.size)
  clear hb7 HB2 HL2 HR1
  go_wp2_with fail
  refine (HS1.out w7 (HT.out _ HB7.out)).mono ?_
  rintro e w8 ⟨rfl, hb8⟩
  have HB8 : Hid (Below w1.heap.size w1 w8) := HB7.out.trans (hb8.mono HB7.out.size)
  clear hb8 HB7 HS1
  go_wp2_with fail
  refine (Hr1.out w8 (HT.out _ HB8.out)).mono ?_
  rintro e w9 ⟨rfl, hb9⟩
  have HB9 : Hid (Below w1.heap.size w1 w9) := HB8.out.trans (hb9.mono HB8.out.size)
  clear hb9 HB8 Hr1
  go_wp2_with fail
  refine (HC1.out w9 (HT.out _ HB9.out)).mono ?_
  rintro e w10 ⟨rfl, hb10⟩
  have HB10 : Hid (Below w1.heap.size w1 w10) := HB9.out.trans (hb10.mono HB9.out.size)
  clear hb10 HB9 HC1
  go_wp2_with fail
  refine (Hc1.out w10 (HT.out _ HB10.out)).mono ?_
  rintro e w11 ⟨rfl, hb11⟩
  have HB11 : Hid (Below w1.heap.size w1 w11) := HB10.out.trans (hb11.mono HB10.out.size)
  clear hb11 HB10 Hc1
  go_wp2_with fail
  refine (Hr2.out w11 (HT.out _ HB11.out)).mono ?_
  rintro e w12 ⟨rfl, hb12⟩
  have HB12 : Hid (Below w1.heap.size w1 w12) := HB11.out.trans (hb12.mono HB11.out.size)
  clear hb12 HB11 Hr2
  go_wp2_with fail
  refine (HC2.out w12 (HT.out _ HB12.out)).mono ?_
  rintro e w13 ⟨rfl, hb13⟩
  have HB13 : Hid (Below w1.heap.size w1 w13) := HB12.out.trans (hb13.mono HB12.out.size)
  clear hb13 HB12 HC2
  have hqq : (q != q) = false := by simp
  have HL13 : Hid (CodeAt w13 w13.heap.size a L) := code_below HL.out HB13.out
  go_wp2_with fail
  obtain ⟨k, hk, hkm⟩ : ∃ k : Nat, k < 153 ∧ x4.tmod (G.size : Int) = (k : Int) := ⟨(x4 % 153).toNat, by omega, by rw [Int.tmod_eq_emod_of_nonneg B4.1, zG]; omega⟩
  obtain ⟨r, hr, hrm⟩ : ∃ r : Nat, r < 255 ∧ x5.tmod 255 = (r : Int) := ⟨(x5 % 255).toNat, by omega, by rw [Int.tmod_eq_emod_of_nonneg B5.1]; omega⟩
  have hkG : k < G.size := by omega
  have hkG' : (k : Int) < (G.size : Int) := by omega
  have hkG1 : (k : Int) + 1 ≤ (G.size : Int) := by omega
  have hG0 : ¬ (G.size : Int) = 0 := by omega
  obtain ⟨c, hc⟩ : ∃ c : UInt8, G[k] = c := ⟨_, rfl⟩
  obtain ⟨y, hy, hyx⟩ : ∃ y : Nat, y < 256 ∧ bits .xor .i64 (c.toNat : Int) (1 + (r : Int)) = (y : Int) := by
    have hc8 := c.toNat_lt
    refine ⟨c.toNat ^^^ (1 + r), Nat.xor_lt_two_pow (n := 8) (by omega) (by omega), ?_⟩
    have := i64_xor c.toNat (1 + r) (by omega) (by omega)
    rw [← this]; simp
  have ey := u8w (y : Int) (by omega) (by omega)
  have my : (y : Int) % 256 = (y : Int) := by omega
  have wc_ : IntKind.i64.wrap (c.toNat : Int) = (c.toNat : Int) := by have := c.toNat_lt; exact i64_small _ (by omega)
  have wr1 : IntKind.i64.wrap (1 + (r : Int)) = 1 + (r : Int) := by have := i64_small (1 + r) (by omega); simpa using this
  have wk1 : IntKind.i64.wrap ((k : Int) + 1) = (k : Int) + 1 := by have := i64_small (k + 1) (by omega); simpa using this
  have hcv := run_str_one (P := Tryd.prog) w13.drew 22 9 5 Tryd.underlying22 Tryd.underlying5 Tryd.underlying9 (y : Int) (by omega) (by omega)
  have hcv' : (convert 22 9 (.slice (some ⟨w13.heap.size, 0, none⟩) 1 1)).run Tryd.prog (w13.alloc (.cells #[.int .u8 (y : Int)] 5)).drew = .ok (.string ⟨#[UInt8.ofNat y]⟩) (w13.alloc (.cells #[.int .u8 (y : Int)] 5)).drew := hcv
  clear hcv
  have HL13d : Hid (CodeAt w13.drew w13.drew.heap.size a L) := HL13.out
  have HL13e : Hid (CodeAt (w13.alloc (.cells #[.int .u8 (y : Int)] 5)).drew (w13.alloc (.cells #[.int .u8 (y : Int)] 5)).drew.heap.size a L) := code_new HL13.out _
  obtain ⟨P, hP⟩ : ∃ P, G.extract 0 k = P := ⟨_, rfl⟩
  obtain ⟨Q, hQ⟩ : ∃ Q, G.extract (k + 1) G.size = Q := ⟨_, rfl⟩
  have zP : P.size ≤ 153 := by rw [← hP, ByteArray.size_extract]; omega
  have zQ : Q.size ≤ 153 := by rw [← hQ, ByteArray.size_extract]; omega
  have hs1 : ∀ W : World, (Instr.slice 9 (.string G) none (some (.int .i64 (k : Int))) none).run Tryd.prog W = .ok (.string P) W := fun W => by
    rw [run_slice_string_h W 9 G Tryd.underlying9 .i64 (k : Int) (by omega) (by omega), Int.toNat_natCast, hP]
  have hs2 : ∀ W : World, (Instr.slice 9 (.string G) (some (.int .i64 ((k : Int) + 1))) none none).run Tryd.prog W = .ok (.string Q) W := fun W => by
    rw [run_slice_string_l W 9 G Tryd.underlying9 .i64 ((k : Int) + 1) (by omega) (by omega), show ((k : Int) + 1).toNat = k + 1 from by omega, hQ]
  have hix : ∀ W : World, (Instr.index 9 (.string G) (.int .i64 (k : Int))).run Tryd.prog W = .ok (.int .u8 (c.toNat : Int)) W := fun W => by
    simp [Instr.index, run_underlying Tryd.underlying9, asIntOf, go_sem, hkG, hc]
  obtain ⟨U, hU⟩ : ∃ U : ByteArray, U = ⟨#[UInt8.ofNat y]⟩ := ⟨_, rfl⟩
  have zU : U.size ≤ 1 := by rw [hU]; exact Nat.le_refl _
  rw [← hU] at hcv'
  have hn1 : ¬ 9223372036854775807 < P.size + U.size := by omega
  have hn2 : ¬ 9223372036854775807 < (P ++ U).size + Q.size := by rw [ByteArray.size_append]; omega
  have hn3 : ¬ 9223372036854775807 < P.size + U.size + Q.size := by omega
  have HzG : Hid (G.size = 153) := zG
  clear zG B0 B1 B2 B3 B4 B5
  refine (A4.out w13 HL13.out).mono ?_
  rintro e w14 ⟨rfl, rfl⟩
  obtain ⟨B, hB⟩ : ∃ B, B = P ++ U ++ Q := ⟨_, rfl⟩
  have HEB : Hid (B = P ++ U ++ Q) := hB
  have zB : B.size ≤ 307 := by rw [hB, ByteArray.size_append, ByteArray.size_append]; omega
  have HzB : Hid (B.size ≤ 307) := zB
  clear hB zB hP hQ hU hc zP zQ zU
  go_upto_region 14 with fail
  go_cut [10] from 70 to 90 (fun v wx => v = .string B ∧ Hid (Below w14.heap.size w14 wx))
  case first =>
    go_region_with ((go_at_call 11; refine (A5.out _ (by first | exact HL13d.out | exact HL13e.out)).mono ?_; rintro e w' ⟨rfl, rfl⟩))
    all_goals
      go_wp2_with fail
      go_meet
      exact ⟨by rw [HEB.out], ((Below.refl _ _).alloc (Nat.le_refl _) _).drew⟩
  case rest =>
    obtain ⟨rfl, hbc⟩ := hcut
    have HBc : Hid (Below w1.heap.size w1 wc) := HB13.out.trans (hbc.out.mono HB13.out.size)
    clear hbc HB13 HL13 HL13d HL13e HEB hs1 hs2 hix hcv' hn1 hn2 hn3 hyx ey my wc_ wr1 wk1 hkm hrm hkG hkG' hkG1 hG0
    obtain ⟨O, hO⟩ : ∃ O, M ++ ⟨#[122]⟩ = O := ⟨_, rfl⟩
    have zO : O.size = 3 := by rw [← hO, ByteArray.size_append, zM]; rfl
    have hbO : ¬ 9223372036854775807 < M.size + (⟨#[122]⟩ : ByteArray).size := by rw [zM]; decide
    obtain ⟨b1, hb1'⟩ : ∃ b, b = hCheck R M B := ⟨_, rfl⟩
    obtain ⟨b2, hb2'⟩ : ∃ b, b = hCheck R O G := ⟨_, rfl⟩
    have K1 : Hid (∀ W, T W → Calls Tryd.prog 15 #[.string R, .string M, .string B] W fun e w' => e = .returned (.bool b1) ∧ Below W.heap.size W w') := fun W hW => by
      rw [hb1']; exact HC.out R M B W (by omega) (by omega) (by have := HzB.out; omega) hW
    have K2 : Hid (∀ W, T W → Calls Tryd.prog 16 #[.string R, .string M, .string B] W fun e w' => e = .returned (.bool b1) ∧ Below W.heap.size W w') := fun W hW => by
      rw [hb1']; exact Hc.out R M B W (by omega) (by omega) (by have := HzB.out; omega) hW
    have K3 : Hid (∀ W, T W → Calls Tryd.prog 15 #[.string R, .string O, .string G] W fun e w' => e = .returned (.bool b2) ∧ Below W.heap.size W w') := fun W hW => by
      rw [hb2']; exact HC.out R O G W (by omega) (by omega) (by have := HzG.out; omega) hW
    have K4 : Hid (∀ W, T W → Calls Tryd.prog 16 #[.string R, .string O, .string G] W fun e w' => e = .returned (.bool b2) ∧ Below W.heap.size W w') := fun W hW => by
      rw [hb2']; exact Hc.out R O G W (by omega) (by omega) (by have := HzG.out; omega) hW
    have t1 : (b1 == b1) = true := by simp
    have t2 : (b2 == b2) = true := by simp
    clear hb1' hb2' HC Hc
    go_wp2_with fail
    refine (K1.out wc (HT.out _ HBc.out)).mono ?_
    rintro e v1 ⟨rfl, hv1⟩
    have HV1 : Hid (Below w1.heap.size w1 v1) := HBc.out.trans (hv1.mono HBc.out.size)
    clear hv1 HBc K1
    go_wp2_with fail
    refine (K2.out v1 (HT.out _ HV1.out)).mono ?_
    rintro e v2 ⟨rfl, hv2⟩
    have HV2 : Hid (Below w1.heap.size w1 v2) := HV1.out.trans (hv2.mono HV1.out.size)
    clear hv2 HV1 K2
    go_wp2_with fail
    refine (K3.out v2 (HT.out _ HV2.out)).mono ?_
    rintro e v3 ⟨rfl, hv3⟩
    have HV3 : Hid (Below w1.heap.size w1 v3) := HV2.out.trans (hv3.mono HV2.out.size)
    clear hv3 HV2 K3
    go_wp2_with fail
    refine (K4.out v3 (HT.out _ HV3.out)).mono ?_
    rintro e v4 ⟨rfl, hv4⟩
    have HV4 : Hid (Below w1.heap.size w1 v4) := HV3.out.trans (hv4.mono HV3.out.size)
    clear hv4 HV3 K4
    go_wp2_with fail
    refine (HS4.out v4 (HT.out _ HV4.out)).mono ?_
    rintro e v5 ⟨rfl, hv5⟩
    have HV5 : Hid (Below w1.heap.size w1 v5) := HV4.out.trans (hv5.mono HV4.out.size)
    clear hv5 HV4 HS4
    go_wp2
    go_ret
    exact ⟨rfl, HV5.out⟩
end Go.Proofs.YtppkjpfofgfiaaaDoor
