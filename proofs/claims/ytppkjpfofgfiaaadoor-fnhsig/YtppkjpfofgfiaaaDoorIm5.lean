/- What the program's PathRoot and Includes answer; old memory stays. -/
import Derived.Test.YtppkjpfofgfiaaaDoorIm4
namespace Go.Proofs.YtppkjpfofgfiaaaDoor
open Go.RowKit
open Num
set_option linter.unusedVariables false
def BoolO (w : World) (a : Option Addr) (l : List Bool) : Prop := l.length = 0 ∨ ∃ g, a = some ⟨g, 0, none⟩ ∧ ∀ j (hj : j < l.length), w.cell? ⟨g, j, none⟩ = some (.bool l[j])
theorem BoolO.below {w w' : World} {a : Option Addr} {l : List Bool} (h : BoolO w a l) (hb : Below w.heap.size w w') : BoolO w' a l := by
  rcases h with h | ⟨g, h1, h2⟩
  · exact .inl h
  · refine .inr ⟨g, h1, fun j hj => ?_⟩
    have hc := h2 j hj
    rw [hb.cell (p := ⟨g, j, none⟩) (World.block_lt_of_cell? w _ hc)]; exact hc
theorem own_bools {w : World} {B : Nat} {v : Value} {l : List Bool} (h : w.ownsRow B 4 1 v l.length (l.map bv)) : ∃ a c, v = .slice a l.length c ∧ l.length ≤ c ∧ BoolO w a l := by
  rcases h.2 with ⟨e0, h0⟩ | ⟨g, cap, cur, e0, hb, hg, hn, _⟩
  · exact ⟨none, 0, by rw [e0, h0], by omega, .inl h0⟩
  · subst e0
    refine ⟨_, cap, rfl, hn, .inr ⟨g, rfl, fun j hj => ?_⟩⟩
    rw [h.cellAt j (by omega), List.getElem?_map, List.getElem?_eq_getElem hj]; rfl
theorem StrO.at {w : World} {a : Option Addr} {p : List ByteArray} (h : StrO w a p) (k : Nat) (hk : k < p.length) : ∃ b o, a = some ⟨b, o, none⟩ ∧ w.cell? ⟨b, o + k, none⟩ = some (.string p[k]) := by
  rcases h with h | ⟨b, o, h1, h2⟩
  · omega
  · exact ⟨b, o, h1, h2 k hk⟩
theorem BoolO.at {w : World} {a : Option Addr} {l : List Bool} (h : BoolO w a l) (k : Nat) (hk : k < l.length) : ∃ g, a = some ⟨g, 0, none⟩ ∧ w.cell? ⟨g, k, none⟩ = some (.bool l[k]) := by
  rcases h with h | ⟨g, h1, h2⟩
  · omega
  · exact ⟨g, h1, h2 k hk⟩
set_option maxHeartbeats 1600000 in
theorem impl_pathRoot : CPathRoot Tab := by
  intro leaf i n a cap p w hlf hi0 hi1 hn0 hn1 hp hpc hcap hA hS hT
  have HA : Hid (StrO w a p) := hA
  have HS : Hid (∀ s ∈ p, s.size ≤ 1048577) := hS
  have HT : Hid (Tab w) := hT
  clear hA hS hT
  by_cases hlo : 0 ≤ i ∧ i < n ∧ n ≤ 40
  · have HL : Hid (leafOf i n = true) := by show _ = _; simp [leafOf, hlo]
    obtain ⟨i', rfl⟩ : ∃ i' : Nat, i = (i' : Int) := ⟨i.toNat, by omega⟩
    obtain ⟨n', rfl⟩ : ∃ n' : Nat, n = (n' : Int) := ⟨n.toNat, by omega⟩
    have hin : i' < n' := by omega
    have hn40 : n' ≤ 40 := by omega
    have HTL : Hid ((turns i' n').length < n') := length_turns n' i' n' (Nat.le_refl _) (by omega)
    clear hlo
    by_cases hpl : p.length = (turns i' n').length
    · rw [pathR_on leaf i' n' p hin hn40 hpl]
      have HTU : Hid (∀ W : World, Calls Tryd.prog 71 #[.int .i64 (i' : Int), .int .i64 (n' : Int)] W fun e w' => ∃ v, e = .returned v ∧ w'.ownsRow W.heap.size 4 1 v (turns i' n').length ((turns i' n').map bv) ∧ Below W.heap.size W w') := fun W => impl_turns i' n' hin hn40 W
      generalize turns i' n' = T at *
      go_enter Tryd.func57, Tryd.ntmps57
      go_wp2_with fail
      refine (impl_isLeaf _ _ hi0 hi1 hn0 hn1 w).mono ?_
      rintro e w1 ⟨rfl, rfl⟩
      rw [HL.out]
      go_wp2_with fail
      refine (HTU.out w1).mono ?_
      rintro e w2 ⟨v, rfl, hown, hb2⟩
      obtain ⟨at2, c2, rfl, hc2, hB2⟩ := own_bools hown
      have HB2 : Hid (BoolO w2 at2 T) := hB2
      have hTl : T.length ≤ 40 := by have := HTL.out; omega
      have HPL : Hid (p.length = T.length) := hpl
      clear hown hB2
      have hq : ((p.length : Int) != (T.length : Int)) = false := by rw [hpl]; simp
      clear hpl
      go_wp2_with fail
      refine (impl_clone leaf w2 (by omega)).mono ?_
      rintro e w3 ⟨rfl, hb3⟩
      have hb13 := hb2.trans (hb3.mono hb2.size)
      have HB3 : Hid (BoolO w3 at2 T) := HB2.out.below hb3
      clear hb2 hb3 HB2
      go_wp2
      go_loopw [11, 30] (fun rv iv wr => ∃ (k : Nat) (acc : ByteArray), iv = .int .i64 k ∧ rv = .string acc ∧ k ≤ T.length ∧ acc.size ≤ 10995116270 ∧ Hid (acc = foldUp leaf (T.take k) (p.take k)) ∧ Hid (BoolO wr at2 T) ∧ Below w1.heap.size w1 wr) (fun _ iv _ => T.length - (intOf iv).toNat)
      case atStart => exact ⟨0, leaf, rfl, rfl, by omega, by omega, by show leaf = _; rw [List.take_zero, foldUp_nil], HB3, hb13⟩
      case round =>
        clear HB3 hb13
        obtain ⟨k, acc, rfl, rfl, hk, hasz, HF, HB, hb⟩ := hrel
        by_cases hlt : k < T.length
        · obtain ⟨g, rfl, hc⟩ := HB.out.at k hlt
          have hkp : k < p.length := by have := HPL.out; omega
          obtain ⟨b, o, rfl, hcp⟩ := (HA.out.below hb).at k hkp
          have hhs : p[k].size ≤ 10995116270 := by have := HS.out p[k] (List.getElem_mem hkp); omega
          have HF2 := foldUp_take leaf T p k HPL.out.symm hlt
          rw [← HF.out] at HF2
          replace HF2 : Hid _ := HF2
          generalize p[k] = h at *
          generalize ht : T[k] = t at *
          clear ht
          have hlt' : (k : Int) < (T.length : Int) := by omega
          have hkp' : (k : Int) < (p.length : Int) := by omega
          cases t with
          | true =>
            go_wp2_with fail
            refine (impl_node acc h wr hasz hhs (HT.out.below hb HT.out.pos)).mono ?_
            rintro e w5 ⟨rfl, hb5⟩
            have hb15 := hb.trans (hb5.mono hb.size)
            have HB5 : Hid (BoolO w5 (some ⟨g, 0, none⟩) T) := HB.out.below hb5
            have hz : (nodeH acc h).size ≤ 10995116270 := by rw [size_nodeH]; decide
            clear hb5 hb HB
            go_wp2
            go_roundw
            case rel =>
              have R : ∃ (k' : Nat) (acc' : ByteArray), Value.int .i64 ((k : Int) + 1) = .int .i64 k' ∧ Value.string (nodeH acc h) = .string acc' ∧ k' ≤ T.length ∧ acc'.size ≤ 10995116270 ∧ Hid (acc' = foldUp leaf (T.take k') (p.take k')) ∧ Hid (BoolO w5 (some ⟨g, 0, none⟩) T) ∧ Below w1.heap.size w1 w5 :=
                ⟨k + 1, nodeH acc h, by simp, rfl, by omega, hz, by rw [HF2.out]; rfl, HB5, hb15⟩
              first | exact R | ((repeat apply Exists.intro); exact ⟨R, rfl⟩)
            case measure => simp [intOf]; omega
          | false =>
            go_wp2_with fail
            refine (impl_node h acc wr hhs hasz (HT.out.below hb HT.out.pos)).mono ?_
            rintro e w5 ⟨rfl, hb5⟩
            have hb15 := hb.trans (hb5.mono hb.size)
            have HB5 : Hid (BoolO w5 (some ⟨g, 0, none⟩) T) := HB.out.below hb5
            have hz : (nodeH h acc).size ≤ 10995116270 := by rw [size_nodeH]; decide
            clear hb5 hb HB
            go_wp2
            go_roundw
            case rel =>
              have R : ∃ (k' : Nat) (acc' : ByteArray), Value.int .i64 ((k : Int) + 1) = .int .i64 k' ∧ Value.string (nodeH h acc) = .string acc' ∧ k' ≤ T.length ∧ acc'.size ≤ 10995116270 ∧ Hid (acc' = foldUp leaf (T.take k') (p.take k')) ∧ Hid (BoolO w5 (some ⟨g, 0, none⟩) T) ∧ Below w1.heap.size w1 w5 :=
                ⟨k + 1, nodeH h acc, by simp, rfl, by omega, hz, by rw [HF2.out]; rfl, HB5, hb15⟩
              first | exact R | ((repeat apply Exists.intro); exact ⟨R, rfl⟩)
            case measure => simp [intOf]; omega
        · have hlt' : ¬ (k : Int) < (T.length : Int) := by omega
          have HE : Hid (foldUp leaf T p = acc) := by
            have h := HF.out
            rw [List.take_of_length_le (by omega), List.take_of_length_le (by have := HPL.out; omega)] at h
            exact h.symm
          clear HF
          go_wp2
          go_ret2
          exact ⟨by rw [HE.out]; rfl, hb⟩
    · rw [pathR_off leaf i' n' p hin hn40 hpl]
      go_enter Tryd.func57, Tryd.ntmps57
      go_wp2_with fail
      refine (impl_isLeaf _ _ hi0 hi1 hn0 hn1 w).mono ?_
      rintro e w1 ⟨rfl, rfl⟩
      rw [HL.out]
      go_wp2_with fail
      refine (impl_turns i' n' hin hn40 w1).mono ?_
      rintro e w2 ⟨v, rfl, hown, hb2⟩
      generalize turns i' n' = T at *
      obtain ⟨at2, c2, rfl, hc2, hB2⟩ := own_bools hown
      clear hown hB2
      have hq : ((p.length : Int) != (T.length : Int)) = true := by simp; omega
      go_wp2
      go_ret2
      exact ⟨rfl, hb2⟩
  · have HL : Hid (leafOf i n = false) := by show _ = _; simp [leafOf, hlo]
    rw [pathR_no leaf i n p hlo]
    clear hlo
    go_enter Tryd.func57, Tryd.ntmps57
    go_wp2_with fail
    refine (impl_isLeaf i n hi0 hi1 hn0 hn1 w).mono ?_
    rintro e w1 ⟨rfl, rfl⟩
    rw [HL.out]
    go_wp2
    go_ret2
    exact ⟨rfl, Below.refl _ _⟩
theorem size_pathR (leaf : ByteArray) (hl : leaf.size ≤ 1048577) (i n : Int) (p : List ByteArray) : (pathR leaf i n p).1.size ≤ 10995116270 := by
  unfold pathR
  split
  · decide
  · split
    · exact up_size leaf (by omega) _ _ _ _
    · decide
set_option maxHeartbeats 400000 in
theorem impl_includes : CIncl Tab := by
  intro root data i n a cap p w hr hd hi0 hi1 hn0 hn1 hp hpc hcap hA hS hT
  have HA : Hid (StrO w a p) := hA
  have HS : Hid (∀ s ∈ p, s.size ≤ 1048577) := hS
  have HT : Hid (Tab w) := hT
  clear hA hS hT
  have HP : Hid (∀ W : World, StrO W a p → Tab W → Calls Tryd.prog 57 #[.string (leafH data), .int .i64 i, .int .i64 n, .slice a p.length cap] W fun e w' => e = .returned (.tuple #[.string (pathR (leafH data) i n p).1, .bool (pathR (leafH data) i n p).2]) ∧ Below W.heap.size W w') :=
    fun W h1 h2 => impl_pathRoot (leafH data) i n a cap p W (by rw [size_leafH]; decide) hi0 hi1 hn0 hn1 hp hpc hcap h1 HS.out h2
  have HI : Hid (incl root data i n p = ((pathR (leafH data) i n p).2 && (pathR (leafH data) i n p).1.toList == root.toList)) := rfl
  rw [HI.out]
  clear HI
  generalize (pathR (leafH data) i n p).1 = y at *
  generalize (pathR (leafH data) i n p).2 = t at *
  cases t with
  | true =>
    go_enter Tryd.func35, Tryd.ntmps35
    go_wp2_with fail
    refine (impl_leaf data w (by omega) HT.out).mono ?_
    rintro e w1 ⟨rfl, hb1⟩
    go_wp2_with fail
    refine (HP.out w1 (HA.out.below hb1) (HT.out.below hb1 HT.out.pos)).mono ?_
    rintro e w2 ⟨rfl, hb2⟩
    have hb3 := hb1.trans (hb2.mono hb1.size)
    clear hb1 hb2
    go_wp2
    go_ret
    exact ⟨by simp, hb3⟩
  | false =>
    go_enter Tryd.func35, Tryd.ntmps35
    go_wp2_with fail
    refine (impl_leaf data w (by omega) HT.out).mono ?_
    rintro e w1 ⟨rfl, hb1⟩
    go_wp2_with fail
    refine (HP.out w1 (HA.out.below hb1) (HT.out.below hb1 HT.out.pos)).mono ?_
    rintro e w2 ⟨rfl, hb2⟩
    have hb3 := hb1.trans (hb2.mono hb1.size)
    clear hb1 hb2
    go_wp2
    go_ret
    exact ⟨by simp, hb3⟩
end Go.Proofs.YtppkjpfofgfiaaaDoor
