/- What impl.HsCheck answers; old memory stays. Conditions: a root of at most 2 to the 20 bytes, texts of at most 2 to the 40; the table. -/
import Derived.Test.YtppkjpfofgfiaaaDoorHi3
import Derived.Test.YtppkjpfofgfiaaaDoorHs6
namespace Go.Proofs.YtppkjpfofgfiaaaDoor
open Go.RowKit
open Num
set_option linter.unusedVariables false
theorem dig_cellc (m : ByteArray) (k : Nat) (h : k < 11) : ((digs m).map iv)[k]? = some (.int .i64 ((dig m k : Nat) : Int)) := by
  rw [List.getElem?_map, List.getElem?_eq_getElem (by rw [length_digs]; exact h)]
  show some (iv _) = _
  unfold dig
  rw [List.getD_eq_getElem?_getD, List.getElem?_eq_getElem (by rw [length_digs]; exact h)]; rfl
theorem run_index_digc (L : List Value) (k : Nat) (v : Value) (hk : k < 11) (h : L[k]? = some v) (W : World) : (Instr.index 41 (.agg L.toArray) (.int .i64 (k : Int))).run Tryd.prog W = .ok v W := by
  have h1 : (k : Int) < 11 := by omega
  simp [Instr.index, run_underlying Tryd.underlying41, asIntOf, go_sem, hk, Tryd.sizeOf3, Tryd.isAgg3, h]
theorem cut_low (s : ByteArray) : (s.extract 89 153).extract 0 32 = s.extract 89 121 := by
  apply ext_list
  rw [data_extract, data_extract, data_extract, List.drop_zero, List.take_take]; rfl
theorem cut_high (s : ByteArray) : (s.extract 89 153).extract 32 64 = s.extract 121 153 := by
  apply ext_list
  rw [data_extract, data_extract, data_extract, List.drop_take, List.drop_drop, List.take_take]; rfl
theorem below_al2 {w w0 w1 : World} {o : Obj} (h : Below w.heap.size w w0) (hb : Below (w0.alloc o).drew.heap.size (w0.alloc o).drew w1) : Below w.heap.size w w1 :=
  have h1 : Below w.heap.size w (w0.alloc o).drew := (h.trans ((Below.refl _ _).alloc h.size o)).drew
  h1.trans (hb.mono h1.size)
set_option maxHeartbeats 3200000 in
set_option maxRecDepth 100000 in
theorem impl_check (root m sig : ByteArray) (w : World) (hr : root.size ≤ 1048577) (hm : m.size ≤ 1099511627776) (hs : sig.size ≤ 1099511627776) (hT : Tab w) :
    Calls Tryd.prog 15 #[.string root, .string m, .string sig] w fun e w' => e = .returned (.bool (hCheck root m sig)) ∧ Below w.heap.size w w' := by
  by_cases h153 : sig.size = 153
  · have h88 : 88 < sig.size := by omega
    have h88' : (88 : Int) < (sig.size : Int) := by omega
    have hne : ((sig.size : Int) != 153) = false := by rw [h153]; rfl
    have HLB : Hid (sig[88].toNat = leafByte sig) := leafByte_at sig h88
    have hwb : wrap64 (sig[88].toNat : Int) = (sig[88].toNat : Int) := wrap_byte _
    have hlb : sig[88].toNat < 256 := sig[88].toNat_lt
    have HE : Hid (hCheck root m sig = incl root (sigPub m sig) ((sig[88].toNat : Nat) : Int) 4 [sig.extract 89 121, sig.extract 121 153]) := by
      show _ = _
      rw [hCheck_of root m sig h153, HLB.out]
    have HSZ : Hid (sig.size = 153) := h153
    obtain ⟨Z, HZ⟩ : ∃ Z : List Value, Hid (Z = List.replicate 11 (sv ⟨#[]⟩)) := ⟨_, rfl⟩
    have hz := zeroS.1
    rw [← HZ.out] at hz
    have hmf : ∀ (fn : Fn) (first cap : Array Value) (w : World), (Instr.makeFunc fn first cap).run Tryd.prog w = .ok (.func fn first cap) w := fun _ _ _ _ => rfl
    have HT : Hid (Tab w) := hT
    obtain ⟨L, hL⟩ : ∃ L, L = (digs m).map iv := ⟨_, rfl⟩
    have HLE : Hid (L = (digs m).map iv) := hL
    have kD := fun W hW => impl_digits m W hm hW
    rw [← hL] at kD
    clear hT hL h153
    have HA0 : Hid (Au (w.alloc (.cells Z.toArray 40)) w.heap.size 40 (parts (lastOf m sig) 11 0)) := by
      rw [parts_zero, ← HZ.out]; exact Au.new w 40 Z
    have hb0 : Below w.heap.size w (w.alloc (.cells Z.toArray 40)) := (Below.refl _ _).alloc (Nat.le_refl _) _
    go_enter Tryd.func15, Tryd.ntmps15
    go_wp2_with fail
    refine (kD _ (HT.out.below hb0 HT.out.pos)).mono ?_
    rintro e w2 ⟨rfl, hbd⟩
    have HA2 : Hid (Au w2 w.heap.size 40 (parts (lastOf m sig) 11 0)) := HA0.out.below hbd
    have hb2 : Below w.heap.size w w2 := hb0.trans (hbd.mono hb0.size)
    clear HA0 hb0 hbd
    go_wp2
    go_loopw [20] (fun cv wr => ∃ (k : Nat), cv = .int .i64 k ∧ k ≤ 11 ∧ Hid (Au wr w.heap.size 40 (parts (lastOf m sig) 11 k)) ∧ Below w.heap.size w wr) (fun cv _ => 11 - (intOf cv).toNat)
    case atStart => exact ⟨0, rfl, by omega, HA2, hb2⟩
    case round =>
      clear HA2 hb2
      obtain ⟨k, rfl, hk, HR, hb⟩ := hrel
      by_cases hlt : k < 11
      · have hlt' : (k : Int) < 11 := by omega
        obtain ⟨d, hd⟩ : ∃ d, d = dig m k := ⟨_, rfl⟩
        have hd3 : d ≤ 3 := by rw [hd]; exact dig_le m k
        have hidx : L[k]? = some (.int .i64 (d : Int)) := by rw [HLE.out, hd]; exact dig_cellc m k hlt
        have hix := fun W => run_index_digc L k _ hlt hidx W
        obtain ⟨X, hX⟩ : ∃ X, X = sig.extract (8 * k) (8 * k + 8) := ⟨_, rfl⟩
        have kG : ∀ W, Tab W → Calls Tryd.prog 28 #[linkOf k, .string X, .int .i64 (d : Int), .int .i64 3] W fun e w' => e = .returned (.string (lastOf m sig k)) ∧ Below W.heap.size W w' := fun W hW => by
          have h := impl_walk k d 3 hlt (by omega) (by omega) X W (by rw [hX]; exact size_part sig HSZ.out k hlt) hW
          exact h.mono fun e w' ⟨he, hb⟩ => ⟨by rw [he, hd, hX]; rfl, hb⟩
        obtain ⟨y, hy⟩ : ∃ y, y = lastOf m sig k := ⟨_, rfl⟩
        rw [← hy] at kG
        have HY : Hid (y = lastOf m sig k) := hy
        have hsl : ∀ W : World, (Instr.slice 9 (.string sig) (some (.int .i64 ((k : Int) * 8))) (some (.int .i64 (((k : Int) + 1) * 8))) none).run Tryd.prog W = .ok (.string X) W := fun W => by
          rw [run_slice_string W 9 sig .i64 .i64 ((k : Int) * 8) (((k : Int) + 1) * 8) Tryd.underlying9 (by omega) (by omega) (by rw [HSZ.out]; omega), hX]
          rw [show ((k : Int) * 8).toNat = 8 * k from by omega, show (((k : Int) + 1) * 8).toNat = 8 * k + 8 from by omega]
        clear hy hd hidx hX
        go_wp2_with fail
        refine (kG wr (HT.out.below hb HT.out.pos)).mono ?_
        rintro e w4 ⟨rfl, hb4⟩
        have hb04 := hb.trans (hb4.mono hb.size)
        have HR4 : Hid (Au w4 w.heap.size 40 (parts (lastOf m sig) 11 k)) := HR.out.below hb4
        have hc : w4.cell? ⟨w.heap.size, k, none⟩ = some (sv ⟨#[]⟩) := HR4.out.cell (parts_behind _ 11 k hlt)
        have hf : w4.frozen? ⟨w.heap.size, k, none⟩ = false := HR4.out.frozen k
        have HR5 : Hid (Au (w4.setCell ⟨w.heap.size, k, none⟩ (.string y)) w.heap.size 40 (parts (lastOf m sig) 11 (k + 1))) := by
          have := HR4.out.set k (sv (lastOf m sig k))
          rw [parts_set _ 11 k hlt] at this
          rw [HY.out]; exact this
        have hb5 : Below w.heap.size w (w4.setCell ⟨w.heap.size, k, none⟩ (.string y)) := hb04.setCell (p := ⟨w.heap.size, k, none⟩) (Nat.le_refl _) _
        clear hb4 hb hb04
        go_wp2
        go_roundw
        case rel =>
          have R : ∃ (k' : Nat), Value.int .i64 ((k : Int) + 1) = .int .i64 k' ∧ k' ≤ 11 ∧ Hid (Au (w4.setCell ⟨w.heap.size, k, none⟩ (.string y)) w.heap.size 40 (parts (lastOf m sig) 11 k')) ∧ Below w.heap.size w (w4.setCell ⟨w.heap.size, k, none⟩ (.string y)) :=
            ⟨k + 1, by simp, by omega, HR5, hb5⟩
          first | exact R | ((repeat apply Exists.intro); exact ⟨R, rfl⟩)
        case measure => simp [intOf]; omega
      · obtain rfl : k = 11 := by omega
        have HS : Hid (StrAt wr w.heap.size 0 ((List.range 11).map (lastOf m sig))) := by
          have := HR.out
          rw [parts_full] at this
          exact au_str this
        have HLT : Hid (w.heap.size < wr.heap.size) := HR.out.lt
        have HSC : Hid ((cat ((List.range 11).map (lastOf m sig))).size ≤ 1099511627776) := by
          have := size_lasts m sig HSZ.out 11 (by omega)
          unfold catK at this
          show _ ≤ _
          rw [this]; decide
        obtain ⟨H, hH⟩ : ∃ H, H = sig.extract 89 153 := ⟨_, rfl⟩
        obtain ⟨A, hA⟩ : ∃ A, A = sig.extract 89 121 := ⟨_, rfl⟩
        obtain ⟨C, hC⟩ : ∃ C, C = sig.extract 121 153 := ⟨_, rfl⟩
        have hH64 : H.size = 64 := by rw [hH, ByteArray.size_extract, HSZ.out]; decide
        have hH1 : sig.extract 89 sig.size = H := by rw [hH, HSZ.out]
        have hA1 : H.extract 0 32 = A := by rw [hH, hA]; exact cut_low sig
        have hC1 : H.extract 32 H.size = C := by rw [hH64, hH, hC]; exact cut_high sig
        have hz1 : (89 : Int) ≤ (sig.size : Int) := by rw [HSZ.out]; omega
        have hz2 : 89 ≤ sig.size := by rw [HSZ.out]; omega
        have hz3 : (32 : Int) ≤ (H.size : Int) := by omega
        have hz4 : 32 ≤ H.size := by omega
        have zA : A.size ≤ 32 := by rw [hA, ByteArray.size_extract]; omega
        have zC : C.size ≤ 32 := by rw [hC, ByteArray.size_extract]; omega
        have hw5 : IntKind.i64.wrap (sig[88].toNat : Int) = (sig[88].toNat : Int) := i64_small _ (by omega)
        obtain ⟨ans, hans⟩ : ∃ b, b = hCheck root m sig := ⟨_, rfl⟩
        have kIn : Hid (∀ (g : Nat) (W : World), two W g A C → Tab W → Calls Tryd.prog 35 #[.string root, .string (sigPub m sig), .int .i64 (sig[88].toNat : Int), .int .i64 4, .slice (some ⟨g, 0, none⟩) 2 2] W fun e w' => e = .returned (.bool ans) ∧ Below W.heap.size W w') := by
          intro g W hW hTW
          have h := impl_includes root (sigPub m sig) (sig[88].toNat : Int) 4 (some ⟨g, 0, none⟩) 2 [A, C] W hr (by unfold sigPub; rw [size_shortB]; omega) (by omega) (by omega) (by omega) (by omega) (by simp) (Nat.le_refl _) (by omega) (two_o hW) (by
            intro s hs
            simp only [List.mem_cons, List.not_mem_nil, or_false] at hs
            rcases hs with rfl | rfl <;> omega) hTW
          rw [hA, hC, ← HE.out, ← hans, ← hA, ← hC] at h
          exact h
        have HANS : Hid (ans = hCheck root m sig) := hans
        have HH : Hid (H.size = 64) := hH64
        clear hans hH hA hC hH64 HE
        go_wp2_with fail
        refine (impl_join w.heap.size 0 11 ((List.range 11).map (lastOf m sig)) wr HS.out HLT.out (by simp) (by simp) HSC.out).mono ?_
        rintro e w3 ⟨rfl, hb3⟩
        have hb03 := hb.trans (hb3.mono hb.size)
        clear hb3
        go_wp2_with fail
        refine (impl_short _ w3 HSC.out (HT.out.below hb03 HT.out.pos)).mono ?_
        rintro e w4 ⟨rfl, hb4⟩
        have hb04 := hb03.trans (hb4.mono hb03.size)
        rw [show shortB (cat ((List.range 11).map (lastOf m sig))) = sigPub m sig from rfl]
        clear hb4 hb03
        go_wp2
        go_region
        all_goals
          go_wp2_with fail
          have HT5 : Hid (Tab (w4.alloc (.cells #[.string A, .string C] 9)).drew) := (HT.out.below hb04 HT.out.pos).below (((Below.refl _ _).alloc (Nat.le_refl _) _).drew) (HT.out.below hb04 HT.out.pos).pos
          have H25 : Hid (two (w4.alloc (.cells #[.string A, .string C] 9)).drew w4.heap.size A C) := two_new w4 A C
          refine (kIn.out _ _ H25.out HT5.out).mono ?_
          rintro e w5 ⟨rfl, hb5⟩
          have hbe : Hid (Below w.heap.size w w5) := below_al2 hb04 hb5
          clear hb5
          go_wp2
          go_ret
          exact ⟨by rw [← HANS.out]; rfl, hbe.out⟩
  · have HE : Hid (hCheck root m sig = false) := hCheck_no root m sig h153
    have hne : ((sig.size : Int) != 153) = true := by simp; omega
    have hne2 : ¬ (sig.size : Int) = 153 := by omega
    clear h153
    go_enter Tryd.func15, Tryd.ntmps15
    go_wp2
    go_ret
    exact ⟨by rw [HE.out]; rfl, Below.refl _ _⟩
end Go.Proofs.YtppkjpfofgfiaaaDoor
