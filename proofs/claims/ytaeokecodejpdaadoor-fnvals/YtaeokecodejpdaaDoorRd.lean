/- What spec.l6Vars and the two ReadVals answer; old memory stays. Conditions: texts of at most 2 to the 40 bytes. -/
import Derived.Test.YtaeokecodejpdaaDoorSh
import Derived.Test.YtaeokecodejpdaaDoorRvi
import Derived.Test.YtaeokecodejpdaaDoorRvs
import Derived.Test.YtaeokecodejpdaaDoorG4
import Derived.Test.YtaeokecodejpdaaDoorG5
import Derived.Deep.RegionHeld3
import Derived.Deep.AppendLies
namespace Go.Proofs.YtaeokecodejpdaaDoor
open Go.RowKit
open Num
set_option linter.unusedVariables false
/-- So many numbers from a place on, and where they end; none where one is missing. -/
def vL (s : ByteArray) (a : Nat) : Nat → Option (List Int × Nat)
  | 0 => some ([], a)
  | n + 1 => match vL s a n with
    | none => none
    | some (xs, b) => if (rvAt s b).2 = 0 then none else some (xs ++ [(rvAt s b).1], b + (rvAt s b).2)
theorem vL_go {s : ByteArray} {a n b : Nat} {xs : List Int} (h : vL s a n = some (xs, b)) (h0 : 0 < (rvAt s b).2) : vL s a (n + 1) = some (xs ++ [(rvAt s b).1], b + (rvAt s b).2) := by
  simp only [vL, h]; rw [if_neg (by omega)]
theorem vL_no {s : ByteArray} {a n b : Nat} {xs : List Int} (h : vL s a n = some (xs, b)) (h0 : (rvAt s b).2 = 0) : vL s a (n + 1) = none := by
  simp only [vL, h]; rw [if_pos h0]
theorem vL_none {s : ByteArray} {a n : Nat} (h : vL s a n = none) : vL s a (n + 1) = none := by
  simp only [vL, h]
theorem vL_len {s : ByteArray} {a : Nat} (ha : a ≤ s.size) : ∀ {n b : Nat} {xs : List Int}, vL s a n = some (xs, b) → xs.length = n ∧ b ≤ s.size
  | 0, b, xs, h => by
    simp [vL] at h
    obtain ⟨rfl, rfl⟩ := h
    exact ⟨rfl, ha⟩
  | n + 1, b, xs, h => by
    simp only [vL] at h
    split at h
    · cases h
    · rename_i ys c hc
      obtain ⟨h1, h2⟩ := vL_len ha hc
      split at h
      · cases h
      · simp at h
        obtain ⟨rfl, rfl⟩ := h
        have := (rvAt_bound s c).1
        exact ⟨by simp [h1], by omega⟩
theorem drop_ext (s : ByteArray) (a : Nat) : (s.extract a s.size).data.toList = s.data.toList.drop a := by
  rw [ByteArray.data_extract, Array.toList_extract, List.extract]
  rw [List.take_of_length_le (by rw [List.length_drop, len_toList]; omega)]
def i64v (x : Int) : Value := .int .i64 x
abbrev OwnI (w : World) (B : Nat) (v : Value) (l : List Int) : Prop := w.ownsRow B 3 1 v l.length (l.map i64v)
theorem own_snocI {w : World} {B : Nat} {v : Value} {l : List Int} {x : Int} (h : w.ownsRow B 3 1 v (l.length + 1) (l.map i64v ++ [i64v x])) : OwnI w B v (l ++ [x]) := by
  unfold OwnI
  rw [List.map_append, List.length_append]; exact h
theorem own_less {w : World} {B B' : Nat} {e : TypeId} {size : Nat} {v : Value} {n : Nat} {xs : List Value} (h : w.ownsRow B e size v n xs) (hB : B' ≤ B) : w.ownsRow B' e size v n xs := by
  obtain ⟨h1, h2⟩ := h
  refine ⟨h1, ?_⟩
  rcases h2 with h2 | ⟨g, cap, cur, hv, hg, r⟩
  · exact Or.inl h2
  · exact Or.inr ⟨g, cap, cur, hv, Nat.le_trans hB hg, r⟩
theorem one_int (w : World) (x : Int) : ∀ j u, [i64v x][j]? = some u → (w.alloc (.cells #[.int .i64 x] 3)).cell? ((⟨w.heap.size, 0, none⟩ : Addr).add j) = some u := by
  intro j u hj
  rw [add_at, cell_of_row _ _ j #[.int .i64 x] 3 (0, 0) (heap_alloc_new _ _)]
  rw [← hj]; simp [i64v]
theorem i64v_one (l : List Int) : ∀ u ∈ l.map i64v, u.oneCell' = true := by
  intro u hu
  obtain ⟨x, _, rfl⟩ := List.mem_map.1 hu
  rfl
theorem OwnI.at {w : World} {B : Nat} {v : Value} {l : List Int} (h : OwnI w B v l) (h0 : 0 < l.length) : ∃ g cap, v = .slice (some ⟨g, 0, none⟩) l.length cap ∧ IAt w g 0 l := by
  have h' := h
  rcases h.2 with ⟨rfl, hn⟩ | ⟨g, cap, cur, rfl, _, hg, hnc, hcm, _⟩
  · omega
  · refine ⟨g, cap, rfl, fun j hj => ?_⟩
    rw [Nat.zero_add, h'.cellAt j (by omega)]
    simp [i64v, hj]
theorem own_keep {w w' : World} {B : Nat} {e : TypeId} {size : Nat} {v : Value} {n : Nat} {xs : List Value} (h : w.ownsRow B e size v n xs) (hb : Below w.heap.size w w') : w'.ownsRow B e size v n xs := by
  obtain ⟨h1, h2⟩ := h
  refine ⟨h1, ?_⟩
  rcases h2 with h2 | ⟨g, cap, cur, hv, hg, hh, r⟩
  · exact Or.inl h2
  · exact Or.inr ⟨g, cap, cur, hv, hg, by rw [hb.block g ((Array.getElem?_eq_some_iff.1 hh).1)]; exact hh, r⟩
set_option maxHeartbeats 800000 in
theorem spec_vars (s : ByteArray) (a n : Nat) (w : World) (hs : s.size ≤ 1099511627776) (ha : a ≤ s.size) (hn : n ≤ 2) :
    Calls Tryd.prog 34 #[.string s, .int .i64 (a : Int), .int .i64 (n : Int)] w fun e w' => ∃ (v : Value) (r : Int), e = .returned (.tuple #[v, .int .i64 r]) ∧ Hid ((vL s a n = none ∧ r = -1) ∨ ∃ (xs : List Int) (b : Nat), vL s a n = some (xs, b) ∧ r = (b : Int) ∧ OwnI w' w.heap.size v xs) ∧ Below w.heap.size w w' := by
  obtain ⟨i0, hinf, hz0, hz1, hz2⟩ := info3f
  go_enter Tryd.func34, Tryd.ntmps34
  go_wp2
  go_loopw [9, 8, 1] (fun iv ov av wr => ∃ (k b : Nat) (q : Value) (xs : List Int), k ≤ n ∧ iv = .int .i64 k ∧ q = ov ∧ av = .int .i64 (b : Int) ∧ Hid (vL s a k = some (xs, b)) ∧ Hid (OwnI wr w.heap.size q xs) ∧ b ≤ s.size ∧ Below w.heap.size w wr) (fun iv _ _ _ => n - (intOf iv).toNat)
  case atStart => exact ⟨0, a, _, [], Nat.zero_le _, rfl, rfl, rfl, rfl, World.ownsRow_made w #[] 0 (Nat.le_refl _) (by decide) rfl, ha, (Below.refl _ _).alloc (Nat.le_refl _) _⟩
  case round =>
    obtain ⟨k, b, q, xs, hk, rfl, rfl, rfl, HV, HO, hb1, hb⟩ := hrel
    by_cases hlt : k < n
    · have hltz : (k : Int) < (n : Int) := by omega
      have hbz : (b : Int) ≤ (s.size : Int) := by omega
      have hbn : ¬ (s.size : Int) < (b : Int) := by omega
      obtain ⟨⟨x, m⟩, hr⟩ : ∃ r, rvAt s b = r := ⟨_, rfl⟩
      have kR := fun W => spec_rv (s.extract b s.size) W (by unfold maxLen; rw [ByteArray.size_extract]; omega)
      rw [drop_ext, show rv (s.data.toList.drop b) = (x, m) from hr] at kR
      have hrb := rvAt_bound s b
      rw [hr] at hrb
      obtain ⟨hm1, hx0, hx1, hx2, hm7⟩ := hrb
      have hm1' : b + m ≤ s.size := by simp only at hm1; omega
      have hxl := vL_len ha HV.out
      have HR : Hid (rvAt s b = (x, m)) := hr
      clear hr hm1 hx2
      simp only at kR hx0 hx1 hm7
      by_cases hm0 : m = 0
      · have HN : Hid (vL s a n = none) := by
          show _ = _
          have h1 : vL s a (k + 1) = none := vL_no HV.out (by rw [HR.out]; exact hm0)
          by_cases e : n = k + 1
          · rw [e]; exact h1
          · rw [show n = k + 1 + 1 from by omega]; exact vL_none h1
        subst hm0
        clear hxl
        go_wp2_with fail
        refine (kR _).mono ?_
        rintro e w1 ⟨rfl, hb2⟩
        have hb3 := hb.trans (hb2.mono hb.size)
        go_wp2
        go_ret2
        exact ⟨_, _, rfl, .inl ⟨HN.out, rfl⟩, hb3⟩
      · have HN : Hid (vL s a (k + 1) = some (xs ++ [x], b + m)) := by
          have := vL_go HV.out (show 0 < (rvAt s b).2 by rw [HR.out]; show 0 < m; omega)
          rw [HR.out] at this
          exact this
        have hmz : ¬ (m : Int) = 0 := by omega
        go_wp2_with fail
        refine (kR _).mono ?_
        rintro e w1 ⟨rfl, hb2⟩
        have hb3 := hb.trans (hb2.mono hb.size)
        have HO1 : Hid (OwnI (w1.alloc (.cells #[.int .i64 x] 3)) w.heap.size q xs) := World.ownsRow.alloc (own_keep HO.out hb2) _
        have HC : Hid (_) := one_int w1 x
        have hsz1 : w.heap.size ≤ w1.heap.size := hb3.size
        have hxl2 : xs.length ≤ 2 := by omega
        clear hb2 hxl kR
        go_wp2_with (at_builtin; refine wpList_append_own _ rfl _ _ 34 rfl w.heap.size 3 i0 (.int .i64 0) 1 8 Tryd.underlying34 hinf hz0 hz1 hz2 rfl (by decide) _ _ _ rfl HO1.out ⟨w1.heap.size, 0, none⟩ 1 1 ([i64v x]) rfl rfl HC.out (i64v_one [x]) (by unfold maxLen; omega) (by omega) (by simp; omega) ?_)
        intro v' w2 hown' hgrow _
        have HO3 : Hid (OwnI w2 w.heap.size v' (xs ++ [x])) := own_snocI hown'
        have hb4 := (hb3.alloc hb3.size (.cells #[.int .i64 x] 3)).grown hgrow (by simp; omega) (fun j hj => (HO.out.lt j hj).1)
        clear hgrow hown' HC HO1 HO
        go_wp2
        go_roundw
        case rel =>
          have R : ∃ (k' b' : Nat) (q : Value) (xs : List Int), k' ≤ n ∧ Value.int .i64 ((k : Int) + 1) = .int .i64 k' ∧ q = v' ∧ Value.int .i64 ((b : Int) + (m : Int)) = .int .i64 (b' : Int) ∧ Hid (vL s a k' = some (xs, b')) ∧ Hid (OwnI w2 w.heap.size q xs) ∧ b' ≤ s.size ∧ Below w.heap.size w w2 := ⟨k + 1, b + m, v', _, by omega, by go_num, rfl, by go_num, HN, HO3, hm1', hb4⟩
          first | exact R | ((repeat apply Exists.intro); exact ⟨R, rfl⟩)
        case measure => simp [intOf]; omega
    · have hltz : ¬ (k : Int) < (n : Int) := by omega
      have HN : Hid (vL s a n = some (xs, b)) := by show _ = _; rw [show n = k from by omega]; exact HV.out
      go_wp2
      go_ret2
      exact ⟨_, _, rfl, .inr ⟨xs, b, HN.out, rfl, HO.out⟩, hb⟩
theorem vL_one_none {s : ByteArray} {a : Nat} (h : vL s a 1 = none) : (rvAt s a).2 = 0 := by
  simp only [vL] at h
  split at h
  · assumption
  · cases h
theorem vL_one_some {s : ByteArray} {a e : Nat} {xs : List Int} (h : vL s a 1 = some (xs, e)) : xs = [(rvAt s a).1] ∧ e = a + (rvAt s a).2 ∧ 0 < (rvAt s a).2 := by
  simp only [vL] at h
  split at h
  · cases h
  · simp at h
    exact ⟨h.1.symm, h.2.symm, by omega⟩
theorem vL_two_none {s : ByteArray} {b : Nat} (h : vL s b 2 = none) : (pairAt s b).i < 1 ∨ (pairAt s b).p < 1 := by
  by_cases h0 : (rvAt s b).2 = 0
  · left
    have := (rvAt_bound s b).2.2.2.1 h0
    show (rvAt s b).1 < 1
    omega
  · right
    have h1 : vL s b 1 = some ([] ++ [(rvAt s b).1], b + (rvAt s b).2) := vL_go (s := s) (a := b) (n := 0) (b := b) (xs := []) rfl (by omega)
    by_cases h2 : (rvAt s (b + (rvAt s b).2)).2 = 0
    · have := (rvAt_bound s (b + (rvAt s b).2)).2.2.2.1 h2
      show (rvAt s (b + (rvAt s b).2)).1 < 1
      omega
    · have := vL_go h1 (by omega)
      rw [this] at h; cases h
theorem vL_two_some {s : ByteArray} {b e : Nat} {xs : List Int} (h : vL s b 2 = some (xs, e)) : xs = [(pairAt s b).i, (pairAt s b).p] ∧ e = nxt s b := by
  by_cases h0 : (rvAt s b).2 = 0
  · have h1 : vL s b 1 = none := vL_no (s := s) (a := b) (n := 0) (b := b) (xs := []) rfl h0
    rw [vL_none h1] at h; cases h
  · have h1 : vL s b 1 = some ([] ++ [(rvAt s b).1], b + (rvAt s b).2) := vL_go (s := s) (a := b) (n := 0) (b := b) (xs := []) rfl (by omega)
    by_cases h2 : (rvAt s (b + (rvAt s b).2)).2 = 0
    · rw [vL_no h1 h2] at h; cases h
    · rw [vL_go h1 (by omega)] at h
      simp at h
      exact ⟨h.1.symm, h.2.symm⟩
/-- A row of numbers stands while another row, of validators, grows. -/
theorem own_other {w w' : World} {B B' : Nat} {v q : Value} {xs : List Int} {l : List V} (h : OwnI w B v xs) (hq : OwnV w B' q l) (hg : w.grownBy w' q.ownBlock) : OwnI w' B v xs := by
  obtain ⟨h1, h2⟩ := h
  refine ⟨h1, ?_⟩
  rcases h2 with h2 | ⟨g, cap, cur, hv, hgB, hh, r⟩
  · exact Or.inl h2
  · refine Or.inr ⟨g, cap, cur, hv, hgB, ?_, r⟩
    rw [hg.block g ((Array.getElem?_eq_some_iff.1 hh).1) ?_]
    · exact hh
    · intro e
      rcases hq.2 with ⟨hq1, _⟩ | ⟨g', cap', cur', hq1, _, hh', _⟩
      · rw [hq1] at e; cases e
      · rw [hq1] at e
        simp [Value.ownBlock] at e
        subst e
        rw [hh] at hh'
        simp at hh'
/-- No validators, just laid. -/
theorem own_none (w w' : World) (B : Nat) (hB : B ≤ w'.heap.size) : OwnV (w'.alloc (.cells #[] 39)) B (.slice (some ⟨w'.heap.size, 0, none⟩) 0 0) [] :=
  World.ownsRow_made w' #[] 0 hB (by decide) rfl
theorem toList_inj {a b : ByteArray} (h : a.toList = b.toList) : a = b := by
  rw [Go.ByteArray.toList_eq, Go.ByteArray.toList_eq] at h
  exact ByteArray.ext (Array.ext' h)
theorem OwnI.row {w : World} {B g n cap : Nat} {l : List Int} (h : OwnI w B (.slice (some ⟨g, 0, none⟩) n cap) l) : IAt w g 0 l := fun j hj => by
  have h' := h
  rcases h.2 with ⟨h1, hn⟩ | ⟨g', cap', cur, h1, _, hg, hnc, hcm, _⟩
  · cases h1
  · simp only [Value.slice.injEq, Option.some.injEq, Addr.mk.injEq, and_true] at h1
    obtain ⟨rfl, rfl, rfl⟩ := h1
    rw [Nat.zero_add, h'.cellAt j (by omega)]
    simp [i64v, hj]
set_option maxHeartbeats 1600000 in
set_option maxRecDepth 100000 in
theorem spec_read (s : ByteArray) (w : World) (hs : s.size ≤ 1099511627776) :
    Calls Tryd.prog 13 #[.string s] w fun e w' => ∃ v, e = .returned (.tuple #[v, .bool (readV s).2]) ∧ OwnV w' w.heap.size v (readV s).1 ∧ Below w.heap.size w w' := by
  obtain ⟨i0, hinf, hz0, hz1, hz2⟩ := info33f
  have hb0 : Below w.heap.size w (w.alloc (.cells #[] 39)) := (Below.refl _ _).alloc (Nat.le_refl _) _
  have HO0 : Hid (OwnV (w.alloc (.cells #[] 39)) w.heap.size (.slice (some ⟨w.heap.size, 0, none⟩) 0 0) []) := own_none w w _ (Nat.le_refl _)
  go_enter Tryd.func13, Tryd.ntmps13
  go_wp2_with fail
  refine (spec_vars s 0 1 _ hs (Nat.zero_le _) (by omega)).mono ?_
  rintro e w1 ⟨nv, r, rfl, HV, hb1⟩
  have hb2 := hb0.trans (hb1.mono hb0.size)
  have HO1 : Hid (OwnV w1 w.heap.size (.slice (some ⟨w.heap.size, 0, none⟩) 0 0) []) := own_keep HO0.out hb1
  rcases HV.out with ⟨hv, rfl⟩ | ⟨xs, b, hv, rfl, hown⟩
  · have HE : Hid (readV s = ([], false)) := readV_no0 (.inl (vL_one_none hv))
    clear hv HV
    go_wp2
    go_ret2
    rw [HE.out]
    exact ⟨_, rfl, HO1.out, hb2⟩
  · obtain ⟨rfl, hbE, hpos⟩ := vL_one_some hv
    rw [Nat.zero_add] at hbE
    subst hbE
    obtain ⟨c, hc⟩ : ∃ c, (rvAt s 0).1 = c := ⟨_, rfl⟩
    obtain ⟨a, ha⟩ : ∃ a, (rvAt s 0).2 = a := ⟨_, rfl⟩
    have hbd := rvAt_bound s 0
    rw [hc, ha] at hbd
    rw [hc] at hown
    have HN1 : Hid (OwnI w1 w.heap.size nv [c]) := own_less hown (by simp)
    obtain ⟨g, cap, rfl, hI⟩ := OwnI.at hown (by simp)
    rw [ha]
    have n0 : w1.cell? ⟨g, 0, none⟩ = some (.int .i64 c) := hI 0 (by simp)
    by_cases hc7 : 7 < c
    · have HE : Hid (readV s = ([], false)) := readV_no0 (.inr (by rw [hc]; exact hc7))
      clear hv HV hown hI
      have ha0 : ¬ (a : Int) < 0 := by omega
      go_wp2
      go_ret2
      rw [HE.out]
      exact ⟨_, rfl, HO1.out, hb2⟩
    · have ha0 : ¬ (a : Int) < 0 := by omega
      obtain ⟨cn, rfl⟩ : ∃ cn : Nat, c = (cn : Int) := ⟨c.toNat, by omega⟩
      have HEQ : Hid (readV s = bif decide (showV (rdl s a cn) = s) then (rdl s a cn, true) else ([], false)) := by
        have := readV_eq (s := s) hpos (by rw [hc]; omega)
        rw [hc, ha, Int.toNat_natCast] at this
        exact this
      have HBAD : Hid (∀ j, j < cn → ((pairAt s (atJ s a j)).i < 1 ∨ (pairAt s (atJ s a j)).p < 1) → readV s = ([], false)) := fun j hj hh => by
        have := readV_bad (s := s) hpos (by rw [hc]; omega) (by rw [hc, ha, Int.toNat_natCast]; exact rdl_bad s a cn j hj hh)
        exact this
      have hal : a ≤ s.size := by omega
      have hspos : 0 < s.size := by omega
      have hcn7 : cn ≤ 7 := by omega
      clear hv HV hown hI hc ha hbd hc7 hpos HO0 hb0 hb1
      go_wp2
      go_loopw [7, 4, 6] (fun iv ov av wr => ∃ (k : Nat) (q : Value), k ≤ cn ∧ iv = .int .i64 k ∧ q = ov ∧ av = .int .i64 (atJ s a k : Nat) ∧ Hid (OwnV wr w.heap.size q (rdl s a k)) ∧ Hid (OwnI wr w.heap.size (.slice (some ⟨g, 0, none⟩) 1 cap) [(cn : Int)]) ∧ Below w.heap.size w wr) (fun iv _ _ _ => cn - (intOf iv).toNat)
      case atStart => exact ⟨0, _, Nat.zero_le _, rfl, rfl, rfl, HO1.out, HN1.out, hb2⟩
      case round =>
        clear n0 hb2 HO1 HN1
        obtain ⟨k, q, hk, rfl, rfl, rfl, HO, HN, hb⟩ := hrel
        have n0 : wr.cell? ⟨g, 0, none⟩ = some (.int .i64 (cn : Int)) := (OwnI.row HN.out) 0 (by simp)
        obtain ⟨p, hp⟩ : ∃ p, atJ s a k = p := ⟨_, rfl⟩
        have hpl : p ≤ s.size := by rw [← hp]; exact atJ_le s a hal k
        have HP : Hid (atJ s a k = p) := hp
        rw [hp]
        clear hp
        by_cases hlt : k < cn
        · have hltz : (k : Int) < (cn : Int) := by omega
          go_wp2_with fail
          refine (spec_vars s p 2 _ hs hpl (by omega)).mono ?_
          rintro e w3 ⟨lv, r, rfl, HV, hb3⟩
          have hb4 := hb.trans (hb3.mono hb.size)
          rcases HV.out with ⟨hv, rfl⟩ | ⟨xs, b, hv, rfl, hown⟩
          · have HE : Hid (readV s = ([], false)) := HBAD.out k hlt (by rw [HP.out]; exact vL_two_none hv)
            clear hv HV
            go_wp2
            go_ret2
            rw [HE.out]
            exact ⟨_, rfl, own_none w w3 _ hb4.size, hb4.alloc hb4.size _⟩
          · obtain ⟨rfl, rfl⟩ := vL_two_some hv
            obtain ⟨v, hvE⟩ : ∃ v, pairAt s p = v := ⟨_, rfl⟩
            rw [hvE] at hown
            have HR : Hid (rdl s a (k + 1) = rdl s a k ++ [v]) := by show _ = _; rw [rdl, HP.out, hvE]
            have HX : Hid (atJ s a (k + 1) = nxt s p) := by show nxt s (atJ s a k) = _; rw [HP.out]
            have hxn : nxt s p ≤ s.size := nxt_le s p hpl
            obtain ⟨g2, cap2, rfl, hI⟩ := OwnI.at hown (by simp)
            have l0 : w3.cell? ⟨g2, 0, none⟩ = some (.int .i64 v.i) := hI 0 (by simp)
            have l1 : w3.cell? ⟨g2, 1, none⟩ = some (.int .i64 v.p) := hI 1 (by simp)
            have HO3 : Hid (OwnV w3 w.heap.size q (rdl s a k)) := own_keep HO.out hb3
            have HN3 : Hid (OwnI w3 w.heap.size (.slice (some ⟨g, 0, none⟩) 1 cap) [(cn : Int)]) := own_keep HN.out hb3
            have hsz3 : w.heap.size ≤ w3.heap.size := hb4.size
            have hrl : (rdl s a k).length ≤ 7 := by rw [rdl_length]; omega
            have hnx0 : ¬ ((nxt s p : Nat) : Int) < 0 := by omega
            have HL3 : Hid (OwnI w3 w.heap.size (.slice (some ⟨g2, 0, none⟩) 2 cap2) [v.i, v.p]) := own_less hown hb.size
            clear hv HV hown hI hvE hb3 n0
            go_wp2_with fail
            have HO4 : Hid (OwnV (w3.alloc (.cells #[.int .i64 v.i, .int .i64 v.p] 39)) w.heap.size q (rdl s a k)) := World.ownsRow.alloc HO3.out _
            have HC : Hid (_) := one_val w3 v w3.heap.size rfl
            go_region_held3 (fun W => W.cell? ⟨g2, 0, none⟩ = some (.int .i64 v.i) ∧ W.cell? ⟨g2, 1, none⟩ = some (.int .i64 v.p)) (first | exact ⟨l0, l1⟩ | exact ⟨s0, s1⟩ | go_keep) ((refine step_append_lies _ rfl _ _ 24 rfl w.heap.size 39 i0 (.agg #[.int .i64 0, .int .i64 0]) 2 16 Tryd.underlying24 hinf hz0 hz1 hz2 rfl (by decide) _ (rdl s a k).length _ (by rfl) HO4.out.drew ⟨w3.heap.size, 0, none⟩ 1 1 (vals [v]) (by rfl) rfl HC.out (vals_one _) (by decide) (by unfold maxLen; omega) (by omega) (by simp; omega) (w3.heap.size + 1) (by simp) ?_; intro g5 cap5 w5 hown' hgrow hat hlt'; have HL5 : OwnI w5 w.heap.size (.slice (some ⟨g2, 0, none⟩) 2 cap2) [v.i, v.p] := own_other (World.ownsRow.drew (World.ownsRow.alloc HL3.out _)) HO4.out.drew hgrow; have s0 : w5.cell? ⟨g2, 0, none⟩ = some (.int .i64 v.i) := (OwnI.row HL5) 0 (by simp); have s1 : w5.cell? ⟨g2, 1, none⟩ = some (.int .i64 v.p) := (OwnI.row HL5) 1 (by simp); clear HL5))
            all_goals
              have HO5 : Hid (OwnV w5 w.heap.size (.slice (some ⟨g5, 0, none⟩) ((rdl s a k).length + 1) cap5) (rdl s a (k + 1))) := by show OwnV _ _ _ _; rw [HR.out]; exact own_snocV hown'
              have hb5 := (hb4.alloc hb4.size (.cells #[.int .i64 v.i, .int .i64 v.p] 39)).drew.grown hgrow (by simp; omega) (fun j hj => (HO.out.lt j hj).1)
              have HN5 : Hid (OwnI w5 w.heap.size (.slice (some ⟨g, 0, none⟩) 1 cap) [(cn : Int)]) := own_other (World.ownsRow.drew (World.ownsRow.alloc HN3.out _)) HO4.out.drew hgrow
              clear hown' hgrow hat hlt' HO4 HC HO3 HN3 l0 l1 HL3 s0 s1
              go_wp2
              go_roundw
              case rel =>
                have R : ∃ (k' : Nat) (q : Value), k' ≤ cn ∧ Value.int .i64 ((k : Int) + 1) = .int .i64 k' ∧ q = Value.slice (some ⟨g5, 0, none⟩) ((rdl s a k).length + 1) cap5 ∧ Value.int .i64 (nxt s p : Nat) = .int .i64 (atJ s a k' : Nat) ∧ Hid (OwnV w5 w.heap.size q (rdl s a k')) ∧ Hid (OwnI w5 w.heap.size (.slice (some ⟨g, 0, none⟩) 1 cap) [(cn : Int)]) ∧ Below w.heap.size w w5 := ⟨k + 1, _, by omega, by go_num, rfl, by rw [HX.out], HO5, HN5, hb5⟩
                first | exact R | ((repeat apply Exists.intro); exact ⟨R, rfl⟩)
              case measure => simp [intOf]; omega
        · have hltz : ¬ (k : Int) < (cn : Int) := by omega
          have hkc : k = cn := by omega
          subst hkc
          obtain ⟨a3, cap3, rfl, hvo, hcl, hcm⟩ := OwnV.o HO.out
          have HVO : Hid (VO wr a3 (rdl s a k)) := hvo
          have hrl : (rdl s a k).length = k := rdl_length s a k
          by_cases hk0 : k = 0
          · have HE : Hid (readV s = ([], false)) := by
              show _ = _
              rw [HEQ.out, decide_eq_false (read_ne hspos (by rw [hk0]; rfl))]; rfl
            have hlz : ((rdl s a k).length : Int) = 0 := by omega
            clear hvo hrl HBAD HEQ
            go_wp2
            go_ret2
            rw [HE.out]
            exact ⟨_, rfl, own_none w wr _ hb.size, hb.alloc hb.size _⟩
          · have hlz : ¬ (rdl s a k).length = 0 := by omega
            have hlz' : ((rdl s a k).length == 0) = false := by simpa using hlz
            have hlz2 : ¬ rdl s a k = [] := fun e => hlz (by rw [e]; rfl)
            have kS := spec_show a3 (rdl s a k) cap3 wr hvo (by omega)
            rcases hd : decide (showV (rdl s a k) = s) with _ | _
            · have HE : Hid (readV s = ([], false)) := by show _ = _; rw [HEQ.out, hd]; rfl
              have hne : ¬ showV (rdl s a k) = s := of_decide_eq_false hd
              have hbq : ((showV (rdl s a k)).toList == s.toList) = false := by
                rw [← Bool.not_eq_true, beq_iff_eq]
                intro e
                exact hne (toList_inj e)
              clear hd hvo hrl HBAD HEQ hne
              go_wp2_with fail
              refine kS.mono ?_
              rintro e w6 ⟨rfl, hb6⟩
              have hb7 := hb.trans (hb6.mono hb.size)
              go_wp2
              go_ret2
              rw [HE.out]
              exact ⟨_, rfl, own_none w w6 _ hb7.size, hb7.alloc hb7.size _⟩
            · have HE : Hid (readV s = (rdl s a k, true)) := by show _ = _; rw [HEQ.out, hd]; rfl
              have he : showV (rdl s a k) = s := of_decide_eq_true hd
              rw [he] at kS
              have hbq : (s.toList == s.toList) = true := by simp
              clear hd hvo hrl HBAD HEQ he
              go_wp2_with fail
              refine kS.mono ?_
              rintro e w6 ⟨rfl, hb6⟩
              have hb7 := hb.trans (hb6.mono hb.size)
              have HO6 : Hid (_) := own_keep HO.out hb6
              go_wp2
              go_ret2
              rw [HE.out]
              exact ⟨_, rfl, HO6.out, hb7⟩
end Go.Proofs.YtaeokecodejpdaaDoor
