/- What spec.HsSign answers; old memory stays. Conditions: seeds of at most 2 to the 40 bytes, nearly, and texts of at most as many. -/
import Derived.Test.YtppkjpfofgfiaaaDoorHs4
namespace Go.Proofs.YtppkjpfofgfiaaaDoor
open Go.RowKit
open Num
set_option linter.unusedVariables false
/-- The digits, where they lie. -/
def DigAt (W : World) (g : Nat) (m : ByteArray) : Prop := ∀ j, j < 11 → W.cell? ⟨g, j, none⟩ = some (.int .i64 ((dig m j : Nat) : Int))
theorem DigAt.below {W W' : World} {g : Nat} {m : ByteArray} (h : DigAt W g m) (hb : Below W.heap.size W W') : DigAt W' g m := fun j hj => by
  have hc := h j hj
  rw [hb.cell (p := ⟨g, j, none⟩) (World.block_lt_of_cell? W _ hc)]; exact hc
theorem dig_of_own {W : World} {B g c : Nat} {m : ByteArray} (h : W.ownsRow B 3 1 (.slice (some ⟨g, 0, none⟩) 11 c) 11 ((digs m).map iv)) : DigAt W g m := fun j hj => by
  rw [h.cellAt j (by omega), List.getElem?_map, List.getElem?_eq_getElem (by rw [length_digs]; exact hj)]
  show some (iv _) = _
  unfold dig
  rw [List.getD_eq_getElem?_getD, List.getElem?_eq_getElem (by rw [length_digs]; exact hj)]; rfl
theorem own_caps {w : World} {B n g cap : Nat} {t : TypeId} {xs : List Value} (h : w.ownsRow B t 1 (.slice (some ⟨g, 0, none⟩) n cap) n xs) : n ≤ cap ∧ cap ≤ 9223372036854775807 := by
  rcases h.2 with ⟨h', _⟩ | ⟨g', cap', cur, h', _, _, h1, h2, _⟩
  · simp at h'
  · simp only [Value.slice.injEq, Option.some.injEq, Addr.mk.injEq, and_true, true_and] at h'
    obtain ⟨_, rfl⟩ := h'
    unfold maxLen at h2
    exact ⟨h1, by omega⟩
/-- What holds between the calls. -/
def Dk (w : World) (g : Nat) (m : ByteArray) (W : World) : Prop := DigAt W g m ∧ Below w.heap.size w W
theorem Dk.step {w W W' : World} {g : Nat} {m : ByteArray} (h : Dk w g m W) (hb : Below W.heap.size W W') : Dk w g m W' := ⟨h.1.below hb, h.2.trans (hb.mono h.2.size)⟩
theorem Dk.drew {w W : World} {g : Nat} {m : ByteArray} (h : Dk w g m W) : Dk w g m W.drew := ⟨h.1, h.2.drew⟩
theorem cat_take (P : List ByteArray) (j : Nat) (h : j < P.length) : cat (P.take (j + 1)) = cat (P.take j) ++ P[j] := by
  rw [List.take_succ_eq_append_getElem h]; exact cat_snoc _ _
set_option maxHeartbeats 1600000 in
set_option maxRecDepth 100000 in
theorem spec_sign (l : Nat) (hl : l < 4) (x m : ByteArray) (w : World) (hx : x.size ≤ 1099511627000) (hm : m.size ≤ 1099511627776) :
    Calls Tryd.prog 23 #[.string x, .int .i64 (l : Int), .string m] w fun e w' => e = .returned (.string (hSign x l m)) ∧ Below w.heap.size w w' := by
  have kI := fun W => spec_leafIs (l : Int) (by omega) (by omega) W
  rw [leafIs_of l hl] at kI
  have wl : (l : Int) % 256 = (l : Int) := by omega
  have hcv : ∀ W : World, (convert 22 9 (.slice (some ⟨W.heap.size, 0, none⟩) 1 1)).run Tryd.prog (W.alloc (.cells #[.int .u8 (l : Int)] 5)) = .ok (.string ⟨#[UInt8.ofNat l]⟩) (W.alloc (.cells #[.int .u8 (l : Int)] 5)) := fun W => by
    have := run_str_one (P := Tryd.prog) W 22 9 5 Tryd.underlying22 Tryd.underlying5 Tryd.underlying9 (l : Int) (by omega) (by omega)
    rwa [Int.toNat_natCast] at this
  go_enter Tryd.func23, Tryd.ntmps23
  go_wp2_with fail
  refine (kI w).mono ?_
  rintro e w0 ⟨rfl, rfl⟩
  go_wp2_with fail
  refine (spec_digits m w0 hm).mono ?_
  rintro e w1 ⟨gd, cd, rfl, hown, hb1⟩
  have HD0 : Hid (Dk w0 gd m w1) := ⟨dig_of_own hown, hb1⟩
  have HCD := own_caps hown
  obtain ⟨hcd1, hcd2⟩ := HCD
  clear hown hb1
  go_wp2
  go_loopw [8, 9] (fun sv cv wr => ∃ (k : Nat) (s : ByteArray), cv = .int .i64 k ∧ sv = .string s ∧ k ≤ 11 ∧ s.size ≤ 88 ∧ Hid (s = catK (partOf x m l) k) ∧ Hid (Dk w0 gd m wr)) (fun _ cv _ => 11 - (intOf cv).toNat)
  case atStart => exact ⟨0, ⟨#[]⟩, rfl, rfl, by omega, by decide, rfl, HD0⟩
  case round =>
    obtain ⟨k, s, rfl, rfl, hk, hs, HS, HD⟩ := hrel
    clear HD0
    by_cases hlt : k < 11
    · have hlt' : (k : Int) < 11 := by omega
      have HN : Hid (s ++ partOf x m l k = catK (partOf x m l) (k + 1)) := by show _ = _; rw [catK_succ, HS.out]
      have h8 : (s ++ partOf x m l k).size ≤ 88 := by
        rw [HN.out, size_catK _ (size_partOf x m l)]; omega
      have hbig : ¬ 9223372036854775807 < s.size + (partOf x m l k).size := by rw [size_partOf]; omega
      obtain ⟨d, hd⟩ : ∃ d, d = dig m k := ⟨_, rfl⟩
      have hd3 : d ≤ 3 := by rw [hd]; exact dig_le m k
      have kS : Hid (∀ W, (W.cell? ⟨gd, k, none⟩ = some (.int .i64 (d : Int)) ∧ Dk w0 gd m W) → Calls Tryd.prog 19 #[.string x, .int .i64 (l : Int), .int .i64 (k : Int)] W fun e w' => e = .returned (.string (hSec x l k)) ∧ (w'.cell? ⟨gd, k, none⟩ = some (.int .i64 (d : Int)) ∧ Dk w0 gd m w')) := fun W hW =>
        (spec_secret l k hl hlt x W hx).mono fun e w' ⟨he, hb⟩ => ⟨he, by rw [hd]; exact (hW.2.step hb).1 k hlt, hW.2.step hb⟩
      have kG : Hid (∀ W, (W.cell? ⟨gd, k, none⟩ = some (.int .i64 (d : Int)) ∧ Dk w0 gd m W) → Calls Tryd.prog 37 #[.int .i64 (k : Int), .int .i64 1, .int .i64 (d : Int), .string (hSec x l k)] W fun e w' => e = .returned (.string (partOf x m l k)) ∧ (w'.cell? ⟨gd, k, none⟩ = some (.int .i64 (d : Int)) ∧ Dk w0 gd m w')) := fun W hW => by
        have h := spec_go k 0 d hlt (Nat.zero_le _) hd3 (hSec x l k) W (size_shortB _)
        exact h.mono fun e w' ⟨he, hb⟩ => ⟨by rw [he, hd]; rfl, by rw [hd]; exact (hW.2.step hb).1 k hlt, hW.2.step hb⟩
      have HS4 : Hid (wr.cell? ⟨gd, k, none⟩ = some (.int .i64 (d : Int)) ∧ Dk w0 gd m wr) := ⟨by rw [hd]; exact HD.out.1 k hlt, HD.out⟩
      have HS4d : Hid (wr.drew.cell? ⟨gd, k, none⟩ = some (.int .i64 (d : Int)) ∧ Dk w0 gd m wr.drew) := ⟨HS4.out.1, HS4.out.2.drew⟩
      clear hd
      generalize partOf x m l k = y at *
      go_wp2
      go_region_held3 (fun W : World => W.cell? ⟨gd, k, none⟩ = some (.int .i64 (d : Int)) ∧ Dk w0 gd m W) (first | exact HS4.out | exact HS4d.out | assumption) (first | (go_at_call 19; refine (kS.out _ (by assumption)).mono ?_; rintro e w' ⟨rfl, hw'⟩) | (go_at_call 37; refine (kG.out _ (by assumption)).mono ?_; rintro e w' ⟨rfl, hw'⟩))
      all_goals
        have HD' : Hid (Dk w0 gd m w') := hw'.2
        clear hw'
        go_wp2
        go_roundw
        case rel =>
          have R : ∃ (k' : Nat) (s' : ByteArray), Value.int .i64 ((k : Int) + 1) = .int .i64 k' ∧ Value.string (s ++ y) = .string s' ∧ k' ≤ 11 ∧ s'.size ≤ 88 ∧ Hid (s' = catK (partOf x m l) k') ∧ Hid (Dk w0 gd m w') :=
            ⟨k + 1, _, by simp, rfl, by omega, h8, HN, HD'⟩
          first | exact R | ((repeat apply Exists.intro); exact ⟨R, rfl⟩)
        case measure => simp [intOf]; omega
    · have hlt' : ¬ (k : Int) < 11 := by omega
      obtain rfl : k = 11 := by omega
      obtain ⟨B, hB⟩ : ∃ B : ByteArray, B = s ++ ⟨#[UInt8.ofNat l]⟩ := ⟨_, rfl⟩
      have hz1 : (⟨#[UInt8.ofNat l]⟩ : ByteArray).size = 1 := rfl
      have hBs : B.size ≤ 89 := by rw [hB, ByteArray.size_append, hz1]; omega
      have hbig : ¬ 9223372036854775807 < s.size + (⟨#[UInt8.ofNat l]⟩ : ByteArray).size := by rw [hz1]; omega
      have hB' : s ++ ⟨#[UInt8.ofNat l]⟩ = B := hB.symm
      have HB : Hid (B = catK (partOf x m l) 11 ++ ⟨#[UInt8.ofNat l]⟩) := by show _ = _; rw [hB, HS.out]
      have hb1 := HD.out.2
      clear hB hz1
      go_wp2_with fail
      have hbA : Below w0.heap.size w0 (wr.alloc (.cells #[.int .u8 (l : Int)] 5)) := hb1.alloc hb1.size _
      refine (spec_pubs x _ hx).mono ?_
      rintro e w2 ⟨g, c, rfl, hown, hb2⟩
      have HA : Hid (StrAt w2 g 0 (hPubs x)) := own_str hown
      have HC : Hid (4 ≤ c ∧ c ≤ 9223372036854775807) := own_cap (l := hPubs x) hown
      have hb02 := hbA.trans (hb2.mono hbA.size)
      clear hown hb2 hbA hb1
      go_wp2_with fail
      refine (spec_treePath g 0 c (l : Int) (by omega) (by omega) (hPubs x) w2 HC.out.1 HC.out.2 HA.out (fun s hs => by rw [mem_hPubs x s hs]; omega)).mono ?_
      rintro e w3 ⟨gp, cp, rfl, hown3, hb3⟩
      have hb03 := hb02.trans (hb3.mono hb02.size)
      have hcp := own_cap hown3
      have HP : Hid (StrAt w3 gp 0 (treeP (hPubs x) l)) := own_str hown3
      have HE : Hid (B ++ cat (treeP (hPubs x) l) = hSign x l m) := by show _ = _; rw [HB.out]; rfl
      have HM : Hid (∀ s ∈ treeP (hPubs x) l, s.size = 32) := mem_treeP _ _
      have hl40 : (treeP (hPubs x) (l : Int)).length ≤ 40 := length_treeP _ _
      clear hown3 hb3 hb02
      generalize treeP (hPubs x) (l : Int) = P at *
      obtain ⟨hcp1, hcp2⟩ := hcp
      go_wp2
      go_loopw [8, 11] (fun sv iv wr => ∃ (j : Nat) (t : ByteArray), iv = .int .i64 j ∧ sv = .string t ∧ j ≤ P.length ∧ t.size ≤ 89 + 32 * j ∧ Hid (t = B ++ cat (P.take j)) ∧ Hid (StrAt wr gp 0 P) ∧ Below w0.heap.size w0 wr) (fun _ iv _ => P.length - (intOf iv).toNat)
      case atStart => exact ⟨0, B, rfl, rfl, by omega, by omega, by show B = _; rw [List.take_zero, cat_nil]; exact (ByteArray.append_empty ..).symm, HP, hb03⟩
      case round =>
        clear HP hb03
        obtain ⟨j, t, rfl, rfl, hj, ht, HT, HP, hb03⟩ := hrel
        by_cases hjl : j < P.length
        · have hjl' : (j : Int) < (P.length : Int) := by omega
          have hcell := HP.out j hjl
          rw [Nat.zero_add] at hcell
          have h32 : P[j].size ≤ 32 := Nat.le_of_eq (HM.out _ (List.getElem_mem hjl))
          have HT2 : Hid (t ++ P[j] = B ++ cat (P.take (j + 1))) := by show _ = _; rw [cat_take P j hjl, HT.out, ByteArray.append_assoc]
          have hz2 : (t ++ P[j]).size ≤ 89 + 32 * (j + 1) := by rw [ByteArray.size_append]; omega
          have hbig2 : ¬ 9223372036854775807 < t.size + P[j].size := by omega
          generalize P[j] = q at *
          go_wp2
          go_roundw
          case rel =>
            have R : ∃ (j' : Nat) (t' : ByteArray), Value.int .i64 ((j : Int) + 1) = .int .i64 j' ∧ Value.string (t ++ q) = .string t' ∧ j' ≤ P.length ∧ t'.size ≤ 89 + 32 * j' ∧ Hid (t' = B ++ cat (P.take j')) ∧ Hid (StrAt wr gp 0 P) ∧ Below w0.heap.size w0 wr :=
              ⟨j + 1, _, by simp, rfl, by omega, hz2, HT2, HP, hb03⟩
            first | exact R | ((repeat apply Exists.intro); exact ⟨R, rfl⟩)
          case measure => simp [intOf]; omega
        · have hjl' : ¬ (j : Int) < (P.length : Int) := by omega
          have HF : Hid (t = hSign x l m) := by
            show _ = _
            rw [HT.out, List.take_of_length_le (by omega), HE.out]
          go_wp2
          go_ret
          exact ⟨by rw [← HF.out]; rfl, hb03⟩
theorem signI_of (l : Nat) (hl : l < 4) (x m : ByteArray) : signI x l m = hSign x l m := by
  unfold signI; rw [if_pos (by omega), Int.toNat_natCast]
theorem signI_no (l : Int) (h : leafIs l = false) (x m : ByteArray) : signI x l m = ⟨#[]⟩ := by
  simp [leafIs] at h
  unfold signI; rw [if_neg (by omega)]
theorem spec_signI (l : Int) (hl0 : -9223372036854775808 ≤ l) (hl1 : l ≤ 9223372036854775807) (x m : ByteArray) (w : World) (hx : x.size ≤ 1099511627000) (hm : m.size ≤ 1099511627776) :
    Calls Tryd.prog 23 #[.string x, .int .i64 l, .string m] w fun e w' => e = .returned (.string (signI x l m)) ∧ Below w.heap.size w w' := by
  have kI := fun W => spec_leafIs l hl0 hl1 W
  rcases hI : leafIs l with _ | _
  · have HE : Hid (signI x l m = ⟨#[]⟩) := signI_no l hI x m
    rw [hI] at kI
    clear hI
    go_enter Tryd.func23, Tryd.ntmps23
    go_wp2_with fail
    refine (kI w).mono ?_
    rintro e w1 ⟨rfl, rfl⟩
    go_wp2
    go_ret
    exact ⟨by rw [HE.out]; rfl, Below.refl _ _⟩
  · obtain ⟨t, rfl, ht⟩ := leaf_nat hI
    rw [signI_of t ht]
    exact spec_sign t ht x m w hx hm
end Go.Proofs.YtppkjpfofgfiaaaDoor
