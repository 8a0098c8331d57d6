/- What spec.l4Path and spec.TreePath answer: a row of texts of their own; old memory stays. Conditions: leaves of at most 2097152 bytes. -/
import Derived.Test.YtppkjpfofgfiaaaDoorMk3
import Derived.Deep.AppendLies
namespace Go.Proofs.YtppkjpfofgfiaaaDoor
open Go.RowKit
open Num
set_option linter.unusedVariables false
theorem info9f : ∃ i, Tryd.prog.info? 9 = some i ∧ i.zero = some (.string ⟨#[]⟩) ∧ i.size = 1 ∧ i.bytes = 16 :=
  ⟨_, rfl, rfl, rfl, rfl⟩
def sv (x : ByteArray) : Value := .string x
theorem sv_one (l : List ByteArray) : ∀ u ∈ l.map sv, u.oneCell' = true := by
  intro v hv
  obtain ⟨c, _, rfl⟩ := List.mem_map.1 hv
  rfl
/-- A row of texts that the call owns. -/
abbrev OwnS (w : World) (B : Nat) (g cap : Nat) (l : List ByteArray) : Prop := w.ownsRow B 9 1 (.slice (some ⟨g, 0, none⟩) l.length cap) l.length (l.map sv)
theorem one_str (W : World) (x : ByteArray) : ∀ j u, ([x].map sv)[j]? = some u → (W.alloc (.cells #[.string x] 9)).cell? ((⟨W.heap.size, 0, none⟩ : Addr).add j) = some u := by
  intro j u hj
  rw [add_at, cell_of_row _ _ j #[.string x] 9 (0, 0) (heap_alloc_new W _)]
  simpa [sv] using hj
theorem length_pathL : ∀ (f : Nat) (l : List ByteArray) (i : Nat), l.length ≤ f → 1 ≤ l.length → (pathL l i).length < l.length
  | 0, l, i, hf, h1 => by omega
  | f + 1, l, i, hf, h1 => by
    by_cases h : l.length = 1
    · rw [pathL_one l i h]; simp; omega
    · have hs := spl_lt (n := l.length) (by omega)
      by_cases hi : i < spl l.length
      · rw [pathL_low l i (by omega) hi, List.length_append]
        have := length_pathL f (l.take (spl l.length)) i (by rw [List.length_take]; omega) (by rw [List.length_take]; omega)
        rw [List.length_take] at this
        simp; omega
      · rw [pathL_high l i (by omega) hi, List.length_append]
        have := length_pathL f (l.drop (spl l.length)) (i - spl l.length) (by rw [List.length_drop]; omega) (by rw [List.length_drop]; omega)
        rw [List.length_drop] at this
        simp; omega
set_option maxHeartbeats 1600000 in
set_option maxRecDepth 100000 in
theorem spec_path : ∀ (f b o cap i : Nat) (ss : List ByteArray) (w : World), 1 ≤ ss.length → ss.length ≤ f → ss.length ≤ 1048576 → i ≤ 1048576 → ss.length ≤ cap → cap ≤ 9223372036854775807 → StrAt w b o ss → (∀ s ∈ ss, s.size ≤ 2097152) →
    Calls Tryd.prog 60 #[.slice (some ⟨b, o, none⟩) ss.length cap, .int .i64 (i : Int)] w fun e w' => ∃ g c, e = .returned (.slice (some ⟨g, 0, none⟩) (pathL ss i).length c) ∧ OwnS w' w.heap.size g c (pathL ss i) ∧ Below w.heap.size w w' := by
  intro f
  induction f with
  | zero => intro b o cap i ss w h1 h2; omega
  | succ f ih =>
    intro b o cap i ss w h1 h2 h3 h3i h4 h5 hA hS
    obtain ⟨i0, hi, hz0, hz1, hz2⟩ := info9f
    have HA : Hid (StrAt w b o ss) := hA
    have HSS : Hid (∀ s ∈ ss, s.size ≤ 2097152) := hS
    have HIH : Hid (∀ (b o cap i : Nat) (ss : List ByteArray) (w : World), 1 ≤ ss.length → ss.length ≤ f → ss.length ≤ 1048576 → i ≤ 1048576 → ss.length ≤ cap → cap ≤ 9223372036854775807 → StrAt w b o ss → (∀ s ∈ ss, s.size ≤ 2097152) →
      Calls Tryd.prog 60 #[.slice (some ⟨b, o, none⟩) ss.length cap, .int .i64 (i : Int)] w fun e w' => ∃ g c, e = .returned (.slice (some ⟨g, 0, none⟩) (pathL ss i).length c) ∧ OwnS w' w.heap.size g c (pathL ss i) ∧ Below w.heap.size w w') := ih
    clear hA hS ih
    by_cases hone : ss.length = 1
    · have hne : ((ss.length : Int) == 1) = true := by rw [hone]; rfl
      have HR : Hid (pathL ss i = []) := pathL_one ss i hone
      rw [HR.out]
      clear hone
      go_enter Tryd.func60, Tryd.ntmps60
      go_wp2
      go_ret
      exact ⟨_, _, rfl, World.ownsRow_made w #[] 0 (Nat.le_refl _) (by decide) rfl, (Below.refl _ _).alloc (Nat.le_refl _) _⟩
    · have hne : ((ss.length : Int) == 1) = false := by rw [beq_eq_false_iff_ne]; omega
      have hs2 : 2 ≤ ss.length := by omega
      obtain ⟨k, hk⟩ : ∃ k, k = spl ss.length := ⟨_, rfl⟩
      have hkl := spl_lt hs2
      rw [← hk] at hkl
      obtain ⟨hk1, hk2⟩ := hkl
      have HK : Hid (k = spl ss.length) := hk
      have HL1 : Hid ((ss.take k).length = k) := by show _ = _; rw [List.length_take]; omega
      have HL2 : Hid ((ss.drop k).length = ss.length - k) := List.length_drop
      have hkn : (k : Int) ≤ (ss.length : Int) := by omega
      have hkc : (k : Int) ≤ (cap : Int) := by omega
      have hck : ¬ cap = k := by omega
      have HS1 : Hid (∀ s ∈ ss.take k, s.size ≤ 2097152) := fun s hs => HSS.out s (List.mem_of_mem_take hs)
      have HS2 : Hid (∀ s ∈ ss.drop k, s.size ≤ 2097152) := fun s hs => HSS.out s (List.mem_of_mem_drop hs)
      have hD : ∀ W : World, StrAt W b o ss → StrAt W b (o + k) (ss.drop k) := fun W h => by
        have := h.win k (ss.length - k)
        rw [List.take_of_length_le (by rw [List.length_drop]; exact Nat.le_refl _)] at this; exact this
      have HD : Hid (∀ W : World, StrAt W b o ss → StrAt W b (o + k) (ss.drop k)) := hD
      clear hD
      by_cases hik : i < k
      · have HR : Hid (pathL ss i = pathL (ss.take k) i ++ [rootL (ss.drop k)]) := by
          show _ = _
          rw [pathL_low ss i hs2 (by omega), ← hk]
        have hik' : (i : Int) < (k : Int) := by omega
        have HPL : Hid ((pathL (ss.take k) i).length < k) := by
          have := length_pathL _ (ss.take k) i (Nat.le_refl _) (by rw [HL1.out]; exact hk1)
          rw [HL1.out] at this; exact this
        have HC1 : Hid (Calls _ _ _ _ _) := HIH.out b o cap i (ss.take k) w.drew (by rw [HL1.out]; omega) (by rw [HL1.out]; omega) (by rw [HL1.out]; omega) h3i (by rw [HL1.out]; omega) h5 (HA.out.take k) HS1.out
        rw [HL1.out] at HC1
        have HC2 : Hid (∀ W : World, StrAt W b o ss → Calls Tryd.prog 56 #[.slice (some ⟨b, o + k, none⟩) (ss.length - k) (cap - k)] W fun e w' => e = .returned (.string (rootL (ss.drop k))) ∧ Below W.heap.size W w') := fun W h => by
          have := spec_root (ss.length - k) b (o + k) (cap - k) (ss.drop k) W (by rw [HL2.out]; omega) (by rw [HL2.out]; exact Nat.le_refl _) (by rw [HL2.out]; omega) (by rw [HL2.out]; omega) (by omega) (HD.out W h) HS2.out
          rw [HL2.out] at this; exact this
        clear hone hs2 hk
        rw [HR.out]
        clear HR
        generalize hP : pathL (ss.take k) i = P at *
        have hPl : P.length ≤ 1048576 := by have := HPL.out; omega
        generalize rootL (ss.drop k) = y at *
        clear hP
        go_enter Tryd.func60, Tryd.ntmps60
        go_wp2_with fail
        refine (spec_split ss.length (by omega) h3 w).mono ?_
        rintro e w1 ⟨rfl, rfl⟩
        rw [← HK.out]
        have HA' : Hid (StrAt w1.drew b o ss) := HA
        go_wp2
        go_region_held3 (fun _ => True) (exact trivial) (first | (go_at_call 60; refine HC1.out.mono ?_; rintro e w2 ⟨g, c, rfl, hown, hb2⟩; have HO2 : Hid (OwnS w2 w1.heap.size g c P) := hown) | (go_at_call 56; refine (HC2.out w2 (HA'.out.below hb2)).mono ?_; rintro e w3 ⟨rfl, hb3⟩; have HO3 : Hid (OwnS w3 w1.heap.size g c P) := own_below HO2.out hb3; have hsz : w1.heap.size ≤ w3.heap.size := Nat.le_trans hb2.size hb3.size) | (refine step_append_lies _ rfl _ _ 37 rfl w1.heap.size 9 i0 (.string ⟨#[]⟩) 1 16 Tryd.underlying37 hi hz0 hz1 hz2 rfl (by decide) _ P.length _ (by rfl) (HO3.out.alloc _) ⟨w3.heap.size, 0, none⟩ 1 1 ([y].map sv) (by rfl) rfl (one_str w3 y) (sv_one _) (by decide) (by unfold maxLen; omega) (by omega) (by simp; omega) (w3.heap.size + 1) (by simp) ?_; intro gn capn w4 hown' hgrow hat hlt'))
        all_goals
          have HW4 : Hid (OwnS w4 w1.heap.size gn capn (P ++ [y])) := by
            show w4.ownsRow _ 9 1 (.slice _ (P ++ [y]).length capn) (P ++ [y]).length ((P ++ [y]).map sv)
            rw [List.length_append, List.map_append]; exact hown'
          have hb4 : Below w1.heap.size w1 w4 := ((((Below.refl _ _).drew.trans hb2).trans (hb3.mono hb2.size)).alloc hsz _).grown hgrow (by simp; omega) (fun j hj => (HO3.out.lt j hj).1)
          clear hown' hgrow hat hlt' hb2 hb3
          rw [show P.length + 1 = (P ++ [y]).length from by simp]
          go_wp2
          go_ret
          exact ⟨gn, capn, rfl, HW4.out, hb4⟩
      · obtain ⟨d, hd⟩ : ∃ d, d = i - k := ⟨_, rfl⟩
        have HR : Hid (pathL ss i = pathL (ss.drop k) d ++ [rootL (ss.take k)]) := by
          show _ = _
          rw [pathL_high ss i hs2 (by omega), ← hk, hd]
        have hik' : ¬ (i : Int) < (k : Int) := by omega
        have ed : IntKind.i64.wrap ((i : Int) - (k : Int)) = (d : Int) := by rw [IntKind.wrap_i64]; omega
        have HPL : Hid ((pathL (ss.drop k) d).length < ss.length - k) := by
          have := length_pathL _ (ss.drop k) d (Nat.le_refl _) (by rw [HL2.out]; omega)
          rw [HL2.out] at this; exact this
        have HC1 : Hid (Calls _ _ _ _ _) := HIH.out b (o + k) (cap - k) d (ss.drop k) w.drew (by rw [HL2.out]; omega) (by rw [HL2.out]; omega) (by rw [HL2.out]; omega) (by omega) (by rw [HL2.out]; omega) (by omega) (HD.out _ HA.out) HS2.out
        rw [HL2.out] at HC1
        have HC2 : Hid (∀ W : World, StrAt W b o ss → Calls Tryd.prog 56 #[.slice (some ⟨b, o, none⟩) k cap] W fun e w' => e = .returned (.string (rootL (ss.take k))) ∧ Below W.heap.size W w') := fun W h => by
          have := spec_root k b o cap (ss.take k) W (by rw [HL1.out]; omega) (by rw [HL1.out]; exact Nat.le_refl _) (by rw [HL1.out]; omega) (by rw [HL1.out]; omega) (by omega) (h.take k) HS1.out
          rw [HL1.out] at this; exact this
        clear hd
        clear hone hs2 hk
        rw [HR.out]
        clear HR
        generalize hP : pathL (ss.drop k) d = P at *
        have hPl : P.length ≤ 1048576 := by have := HPL.out; omega
        generalize rootL (ss.take k) = y at *
        clear hP
        go_enter Tryd.func60, Tryd.ntmps60
        go_wp2_with fail
        refine (spec_split ss.length (by omega) h3 w).mono ?_
        rintro e w1 ⟨rfl, rfl⟩
        rw [← HK.out]
        have HA' : Hid (StrAt w1.drew b o ss) := HA
        go_wp2
        go_region_held3 (fun _ => True) (exact trivial) (first | (go_at_call 60; refine HC1.out.mono ?_; rintro e w2 ⟨g, c, rfl, hown, hb2⟩; have HO2 : Hid (OwnS w2 w1.heap.size g c P) := hown) | (go_at_call 56; refine (HC2.out w2 (HA'.out.below hb2)).mono ?_; rintro e w3 ⟨rfl, hb3⟩; have HO3 : Hid (OwnS w3 w1.heap.size g c P) := own_below HO2.out hb3; have hsz : w1.heap.size ≤ w3.heap.size := Nat.le_trans hb2.size hb3.size) | (refine step_append_lies _ rfl _ _ 37 rfl w1.heap.size 9 i0 (.string ⟨#[]⟩) 1 16 Tryd.underlying37 hi hz0 hz1 hz2 rfl (by decide) _ P.length _ (by rfl) (HO3.out.alloc _) ⟨w3.heap.size, 0, none⟩ 1 1 ([y].map sv) (by rfl) rfl (one_str w3 y) (sv_one _) (by decide) (by unfold maxLen; omega) (by omega) (by simp; omega) (w3.heap.size + 1) (by simp) ?_; intro gn capn w4 hown' hgrow hat hlt'))
        all_goals
          have HW4 : Hid (OwnS w4 w1.heap.size gn capn (P ++ [y])) := by
            show w4.ownsRow _ 9 1 (.slice _ (P ++ [y]).length capn) (P ++ [y]).length ((P ++ [y]).map sv)
            rw [List.length_append, List.map_append]; exact hown'
          have hb4 : Below w1.heap.size w1 w4 := ((((Below.refl _ _).drew.trans hb2).trans (hb3.mono hb2.size)).alloc hsz _).grown hgrow (by simp; omega) (fun j hj => (HO3.out.lt j hj).1)
          clear hown' hgrow hat hlt' hb2 hb3
          rw [show P.length + 1 = (P ++ [y]).length from by simp]
          go_wp2
          go_ret
          exact ⟨gn, capn, rfl, HW4.out, hb4⟩
set_option maxHeartbeats 800000 in
theorem spec_treePath (b o cap : Nat) (i : Int) (hi0 : -9223372036854775808 ≤ i) (hi1 : i ≤ 9223372036854775807) (ss : List ByteArray) (w : World) (h4 : ss.length ≤ cap) (h5 : cap ≤ 9223372036854775807) (hA : StrAt w b o ss) (hS : ∀ s ∈ ss, s.size ≤ 2097152) :
    Calls Tryd.prog 44 #[.slice (some ⟨b, o, none⟩) ss.length cap, .int .i64 i] w fun e w' => ∃ g c, e = .returned (.slice (some ⟨g, 0, none⟩) (treeP ss i).length c) ∧ OwnS w' w.heap.size g c (treeP ss i) ∧ Below w.heap.size w w' := by
  by_cases hno : 40 < ss.length ∨ i < 0 ∨ (ss.length : Int) ≤ i
  · have HU : Hid (treeP ss i = []) := by show _ = _; unfold treeP; rw [if_pos hno]
    rw [HU.out]
    clear hA hS HU
    by_cases q1 : (40 : Int) < (ss.length : Int)
    · clear hno
      go_enter Tryd.func44, Tryd.ntmps44
      go_wp2
      go_ret
      exact ⟨_, _, rfl, World.ownsRow_made w #[] 0 (Nat.le_refl _) (by decide) rfl, (Below.refl _ _).alloc (Nat.le_refl _) _⟩
    · by_cases q2 : i < 0
      · clear hno
        go_enter Tryd.func44, Tryd.ntmps44
        go_wp2
        go_ret
        exact ⟨_, _, rfl, World.ownsRow_made w #[] 0 (Nat.le_refl _) (by decide) rfl, (Below.refl _ _).alloc (Nat.le_refl _) _⟩
      · have q3 : (ss.length : Int) ≤ i := by omega
        clear hno
        go_enter Tryd.func44, Tryd.ntmps44
        go_wp2
        go_ret
        exact ⟨_, _, rfl, World.ownsRow_made w #[] 0 (Nat.le_refl _) (by decide) rfl, (Below.refl _ _).alloc (Nat.le_refl _) _⟩
  · obtain ⟨j, rfl⟩ : ∃ m : Nat, i = (m : Int) := ⟨i.toNat, by omega⟩
    have HU : Hid (treeP ss j = pathL ss j) := by show _ = _; unfold treeP; rw [if_neg hno, Int.toNat_natCast]
    rw [HU.out]
    have q1 : ¬ (40 : Int) < (ss.length : Int) := by omega
    have q2 : ¬ (j : Int) < 0 := by omega
    have q3 : ¬ (ss.length : Int) ≤ (j : Int) := by omega
    have HC : Hid (Calls _ _ _ _ _) := spec_path ss.length b o cap j ss w (by omega) (Nat.le_refl _) (by omega) (by omega) h4 h5 hA hS
    clear hno hA hS HU
    go_enter Tryd.func44, Tryd.ntmps44
    go_wp2_with fail
    refine HC.out.mono ?_
    rintro e w1 ⟨g, c, rfl, hown, hb⟩
    have HO : Hid (OwnS w1 w.heap.size g c (pathL ss j)) := hown
    clear hown
    go_wp2
    go_ret
    exact ⟨g, c, rfl, HO.out, hb⟩
end Go.Proofs.YtppkjpfofgfiaaaDoor
