/- What spec.HsCheck answers; old memory stays. Conditions: texts of at most 2 to the 40 bytes. -/
import Derived.Test.YtppkjpfofgfiaaaDoorHs5
namespace Go.Proofs.YtppkjpfofgfiaaaDoor
open Go.RowKit
open Num
set_option linter.unusedVariables false
theorem size_lastOf (m sig : ByteArray) (h : sig.size = 153) (c : Nat) (hc : c < 11) : (lastOf m sig c).size = 8 := by
  unfold lastOf
  apply size_hUp
  rw [ByteArray.size_extract]; omega
theorem size_part (sig : ByteArray) (h : sig.size = 153) (c : Nat) (hc : c < 11) : (sig.extract (8 * c) (8 * c + 8)).size = 8 := by
  rw [ByteArray.size_extract]; omega
theorem size_lasts (m sig : ByteArray) (h : sig.size = 153) (k : Nat) (hk : k ≤ 11) : (catK (lastOf m sig) k).size = 8 * k := by
  unfold catK
  rw [size_cat 8 _ (by intro x hx; obtain ⟨c, hc, rfl⟩ := List.mem_map.1 hx; exact size_lastOf m sig h c (by have := List.mem_range.1 hc; omega))]
  simp
theorem leafByte_at (sig : ByteArray) (h : 88 < sig.size) : sig[88].toNat = leafByte sig := by
  unfold leafByte
  rw [List.getD_eq_getElem?_getD, List.getElem?_eq_getElem (by rw [← size_list]; exact h)]
  rfl
/-- Two texts, just laid. -/
def two (W : World) (g : Nat) (a b : ByteArray) : Prop := StrAt W g 0 [a, b]
theorem two_new (W : World) (a b : ByteArray) : two (W.alloc (.cells #[.string a, .string b] 9)) W.heap.size a b := strAt_new W [a, b]
theorem two_after {W w' : World} {a b : ByteArray} (hb : Below (W.alloc (.cells #[.string a, .string b] 9)).heap.size (W.alloc (.cells #[.string a, .string b] 9)) w') : two w' W.heap.size a b := StrAt.below (two_new W a b) hb
theorem two_afterD {W w' : World} {a b : ByteArray} (hb : Below (W.alloc (.cells #[.string a, .string b] 9)).drew.heap.size (W.alloc (.cells #[.string a, .string b] 9)).drew w') : two w' W.heap.size a b := StrAt.below (w := (W.alloc (.cells #[.string a, .string b] 9)).drew) (two_new W a b) hb
theorem ways_a {w wr w' w'' : World} {o : Obj} (h0 : Below w.heap.size w wr) (hb' : Below wr.drew.heap.size wr.drew w') (hb'' : Below (w'.alloc o).heap.size (w'.alloc o) w'') : Below w.heap.size w w'' :=
  have h1 := h0.drew
  have h2 := h1.trans (hb'.mono h1.size)
  h2.trans ((below_al hb'').mono h2.size)
theorem ways_b {w wr w' w'' : World} {o : Obj} (h0 : Below w.heap.size w wr) (hb' : Below (wr.alloc o).drew.heap.size (wr.alloc o).drew w') (hb'' : Below w'.heap.size w' w'') : Below w.heap.size w w'' :=
  have h1 := (h0.alloc h0.size o).drew
  have h2 := h1.trans (hb'.mono h1.size)
  h2.trans (hb''.mono h2.size)
theorem two_o {W : World} {g : Nat} {a b : ByteArray} (h : two W g a b) : StrO W (some ⟨g, 0, none⟩) [a, b] := .inr ⟨g, 0, rfl, h⟩
set_option maxHeartbeats 1600000 in
set_option maxRecDepth 100000 in
theorem spec_check (root m sig : ByteArray) (w : World) (hm : m.size ≤ 1099511627776) (hs : sig.size ≤ 1099511627776) :
    Calls Tryd.prog 16 #[.string root, .string m, .string sig] w fun e w' => e = .returned (.bool (hCheck root m sig)) ∧ Below w.heap.size w w' := by
  by_cases h153 : sig.size = 153
  · have h88 : 88 < sig.size := by omega
    have h88' : (88 : Int) < (sig.size : Int) := by omega
    have hne : ((sig.size : Int) != 153) = false := by rw [h153]; rfl
    have HLB : Hid (sig[88].toNat = leafByte sig) := leafByte_at sig h88
    have hwb : wrap64 (sig[88].toNat : Int) = (sig[88].toNat : Int) := wrap_byte _
    by_cases hlf : leafByte sig < 4
    · have hl4 : (sig[88].toNat : Int) < 4 := by rw [HLB.out]; omega
      have hl4' : ¬ (4 : Int) ≤ (sig[88].toNat : Int) := by omega
      have HE : Hid (hCheck root m sig = incl root (sigPub m sig) ((sig[88].toNat : Nat) : Int) 4 [sig.extract 89 121, sig.extract 121 153]) := by
        show _ = _
        rw [hCheck_of root m sig h153, HLB.out]
      have HZ : Hid (sig.size = 153) := h153
      clear h153 hlf
      go_enter Tryd.func16, Tryd.ntmps16
      go_wp2_with fail
      refine (spec_digits m w hm).mono ?_
      rintro e w1 ⟨gd, cd, rfl, hown, hb1⟩
      have HD0 : Hid (Dk w gd m w1) := ⟨dig_of_own hown, hb1⟩
      have HCD := own_caps hown
      obtain ⟨hcd1, hcd2⟩ := HCD
      clear hown hb1
      go_wp2
      go_loopw [9, 10] (fun sv cv wr => ∃ (k : Nat) (s : ByteArray), cv = .int .i64 k ∧ sv = .string s ∧ k ≤ 11 ∧ s.size ≤ 88 ∧ Hid (s = catK (lastOf m sig) k) ∧ Hid (Dk w gd m wr)) (fun _ cv _ => 11 - (intOf cv).toNat)
      case atStart => exact ⟨0, ⟨#[]⟩, rfl, rfl, by omega, by decide, rfl, HD0⟩
      case round =>
        obtain ⟨k, s, rfl, rfl, hk, hs, HS, HD⟩ := hrel
        clear HD0
        by_cases hlt : k < 11
        · have hlt' : (k : Int) < 11 := by omega
          have HN : Hid (s ++ lastOf m sig k = catK (lastOf m sig) (k + 1)) := by show _ = _; rw [catK_succ, HS.out]
          have h8 : (s ++ lastOf m sig k).size ≤ 88 := by
            rw [HN.out, size_lasts m sig HZ.out _ (by omega)]; omega
          have hbig : ¬ 9223372036854775807 < s.size + (lastOf m sig k).size := by rw [size_lastOf m sig HZ.out k hlt]; omega
          obtain ⟨d, hd⟩ : ∃ d, d = dig m k := ⟨_, rfl⟩
          have hd3 : d ≤ 3 := by rw [hd]; exact dig_le m k
          obtain ⟨X, hX⟩ : ∃ X, X = sig.extract (8 * k) (8 * k + 8) := ⟨_, rfl⟩
          have hX' : sig.extract (8 * k) (8 * k + 8) = X := hX.symm
          have kG : Hid (∀ W, (W.cell? ⟨gd, k, none⟩ = some (.int .i64 (d : Int)) ∧ Dk w gd m W) → Calls Tryd.prog 37 #[.int .i64 (k : Int), .int .i64 ((d : Int) + 1), .int .i64 3, .string X] W fun e w' => e = .returned (.string (lastOf m sig k)) ∧ (w'.cell? ⟨gd, k, none⟩ = some (.int .i64 (d : Int)) ∧ Dk w gd m w')) := fun W hW => by
            have h := spec_go k d 3 hlt hd3 (Nat.le_refl _) X W (by rw [hX]; exact size_part sig HZ.out k hlt)
            exact h.mono fun e w' ⟨he, hb⟩ => ⟨by rw [he, hd, hX]; rfl, by rw [hd]; exact (hW.2.step hb).1 k hlt, hW.2.step hb⟩
          have HS4 : Hid (wr.cell? ⟨gd, k, none⟩ = some (.int .i64 (d : Int)) ∧ Dk w gd m wr) := ⟨by rw [hd]; exact HD.out.1 k hlt, HD.out⟩
          have HS4d : Hid (wr.drew.cell? ⟨gd, k, none⟩ = some (.int .i64 (d : Int)) ∧ Dk w gd m wr.drew) := ⟨HS4.out.1, HS4.out.2.drew⟩
          obtain ⟨a, ha⟩ : ∃ a : Nat, a = 8 * k := ⟨_, rfl⟩
          obtain ⟨b, hb⟩ : ∃ b : Nat, b = 8 * k + 8 := ⟨_, rfl⟩
          rw [← hb, ← ha] at hX'
          have ha1 : 8 * (k : Int) = (a : Int) := by omega
          have ha2 : (a : Int) + 8 = (b : Int) := by omega
          have ha3 : IntKind.i64.wrap (8 * (k : Int)) = (a : Int) := by rw [ha1]; exact i64_small _ (by omega)
          have ha4 : IntKind.i64.wrap ((a : Int) + 8) = (b : Int) := by rw [ha2]; exact i64_small _ (by omega)
          have hd4 : IntKind.i64.wrap ((d : Int) + 1) = (d : Int) + 1 := by rw [show (d : Int) + 1 = ((d + 1 : Nat) : Int) from rfl]; exact i64_small _ (by omega)
          have hr0 : (0 : Int) ≤ (a : Int) := by omega
          have hr1 : (a : Int) ≤ (b : Int) := by omega
          have hr2 : (b : Int) ≤ (sig.size : Int) := by rw [HZ.out]; omega
          have hr3 : a ≤ b := by omega
          have hr4 : b ≤ sig.size := by rw [HZ.out]; omega
          have hsl : ∀ W : World, (Instr.slice 9 (.string sig) (some (.int .i64 (a : Int))) (some (.int .i64 (b : Int))) none).run Tryd.prog W = .ok (.string X) W := fun W => by
            rw [run_slice_string W 9 sig .i64 .i64 (a : Int) (b : Int) Tryd.underlying9 hr0 hr1 hr2, Int.toNat_natCast, Int.toNat_natCast, hX']
          clear hd hX ha hb ha1 ha2 hr3 hr4
          generalize lastOf m sig k = y at *
          go_wp2
          go_region_held3 (fun W : World => W.cell? ⟨gd, k, none⟩ = some (.int .i64 (d : Int)) ∧ Dk w gd m W) (first | exact HS4.out | exact HS4d.out | assumption) ((go_at_call 37; refine (kG.out _ (by assumption)).mono ?_; rintro e w' ⟨rfl, hw'⟩))
          all_goals
            have HD' : Hid (Dk w gd m w') := hw'.2
            clear hw'
            go_wp2
            go_roundw
            case rel =>
              have R : ∃ (k' : Nat) (s' : ByteArray), Value.int .i64 ((k : Int) + 1) = .int .i64 k' ∧ Value.string (s ++ y) = .string s' ∧ k' ≤ 11 ∧ s'.size ≤ 88 ∧ Hid (s' = catK (lastOf m sig) k') ∧ Hid (Dk w gd m w') :=
                ⟨k + 1, _, by simp, rfl, by omega, h8, HN, HD'⟩
              first | exact R | ((repeat apply Exists.intro); exact ⟨R, rfl⟩)
            case measure => simp [intOf]; omega
        · have hlt' : ¬ (k : Int) < 11 := by omega
          obtain rfl : k = 11 := by omega
          have hb0 := HD.out.2
          have HP : Hid (shortB s = sigPub m sig) := by show _ = _; rw [HS.out]; rfl
          obtain ⟨A, hA⟩ : ∃ A, A = sig.extract 89 121 := ⟨_, rfl⟩
          obtain ⟨C, hC⟩ : ∃ C, C = sig.extract 121 153 := ⟨_, rfl⟩
          have hA' : sig.extract 89 121 = A := hA.symm
          have hC' : sig.extract 121 sig.size = C := by rw [hC, HZ.out]
          have hz1 : (121 : Int) ≤ (sig.size : Int) := by rw [HZ.out]; omega
          have hz2 : 121 ≤ sig.size := by rw [HZ.out]; omega
          have hw5 : IntKind.i64.wrap (sig[88].toNat : Int) = (sig[88].toNat : Int) := i64_small _ (by omega)
          have hw1 : IntKind.i64.wrap 89 = 89 := by decide
          have hw2 : IntKind.i64.wrap 121 = 121 := by decide
          have hw3 : IntKind.i64.wrap (88 + 1) = 89 := by decide
          have hw4 : IntKind.i64.wrap (88 + 33) = 121 := by decide
          have zA : A.size ≤ 32 := by rw [hA, ByteArray.size_extract]; omega
          have zC : C.size ≤ 32 := by rw [hC, ByteArray.size_extract]; omega
          have kIn : Hid (∀ (g : Nat) (W : World), two W g A C → Calls Tryd.prog 38 #[.string root, .string (shortB s), .int .i64 (sig[88].toNat : Int), .int .i64 4, .slice (some ⟨g, 0, none⟩) 2 2] W fun e w' => e = .returned (.bool (hCheck root m sig)) ∧ Below W.heap.size W w') := by
            intro g W hW
            have h := spec_includes root (shortB s) (by rw [size_shortB]; omega) (sig[88].toNat : Int) 4 (by omega) (by omega) (by omega) (by omega) 2 (some ⟨g, 0, none⟩) [A, C] W (Nat.le_refl _) (by omega) (two_o hW) (by
              intro s hs
              simp only [List.mem_cons, List.not_mem_nil, or_false] at hs
              rcases hs with rfl | rfl <;> omega)
            rw [HP.out, hA, hC, ← HE.out, ← HP.out] at h
            exact h
          clear hA hC HE HS HD
          obtain ⟨ans, hans⟩ : ∃ b, b = hCheck root m sig := ⟨_, rfl⟩
          rw [← hans] at kIn
          have HANS : Hid (ans = hCheck root m sig) := hans
          clear hans
          go_wp2
          go_region_with (first | (go_at_call 39; refine (spec_short s _ (by omega)).mono ?_; rintro e w' ⟨rfl, hb'⟩) | (go_at_call 38; first | (refine (kIn.out _ _ (two_new _ _ _)).mono ?_; rintro e w'' ⟨rfl, hb''⟩) | (refine (kIn.out _ _ (two_afterD hb')).mono ?_; rintro e w'' ⟨rfl, hb''⟩)))
          all_goals
            have hbe : Hid (Below w.heap.size w w'') := by first | exact ways_a hb0 hb' hb'' | exact ways_b hb0 hb' hb''
            clear hb' hb''
            go_wp2
            go_ret
            exact ⟨by rw [← HANS.out]; rfl, hbe.out⟩
    · have hl4' : (4 : Int) ≤ (sig[88].toNat : Int) := by rw [HLB.out]; omega
      have HE : Hid (hCheck root m sig = false) := hCheck_no2 root m sig hlf
      clear h153 hlf
      go_enter Tryd.func16, Tryd.ntmps16
      go_wp2
      go_ret
      exact ⟨by rw [HE.out]; rfl, Below.refl _ _⟩
  · have HE : Hid (hCheck root m sig = false) := hCheck_no root m sig h153
    have hne : ((sig.size : Int) != 153) = true := by simp; omega
    have hne2 : ¬ (sig.size : Int) = 153 := by omega
    clear h153
    go_enter Tryd.func16, Tryd.ntmps16
    go_wp2
    go_ret
    exact ⟨by rw [HE.out]; rfl, Below.refl _ _⟩
end Go.Proofs.YtppkjpfofgfiaaaDoor
