/- What spec.l6Vars and spec.l6Take answer; old memory stays. Conditions: texts of at most 2 to the 40 bytes. -/
import Derived.Test.YtdpjlfgfacjfeaaDoorRvs
import Derived.Test.YtdpjlfgfacjfeaaDoorBe
import Derived.Test.YtdpjlfgfacjfeaaDoorHd
import Derived.Deep.RegionHeld3
import Derived.Deep.AppendLies
namespace Go.Proofs.YtdpjlfgfacjfeaaDoor
open Go.RowKit
open Num
set_option linter.unusedVariables false
/-- Numbers lie in cells from a place on. -/
def IAt (w : World) (b o : Nat) (l : List Int) : Prop := ∀ j (hj : j < l.length), w.cell? ⟨b, o + j, none⟩ = some (.int .i64 l[j])
def i64v (x : Int) : Value := .int .i64 x
abbrev OwnI (w : World) (B : Nat) (v : Value) (l : List Int) : Prop := w.ownsRow B 3 1 v l.length (l.map i64v)
set_option maxRecDepth 100000 in
theorem own_snocI {w : World} {B : Nat} {v : Value} {l : List Int} {x : Int} (h : w.ownsRow B 3 1 v (l.length + 1) (l.map i64v ++ [i64v x])) : OwnI w B v (l ++ [x]) := by
  unfold OwnI
  rw [List.map_append, List.length_append]; exact h
set_option maxRecDepth 100000 in
theorem own_less {w : World} {B B' : Nat} {e : TypeId} {size : Nat} {v : Value} {n : Nat} {xs : List Value} (h : w.ownsRow B e size v n xs) (hB : B' ≤ B) : w.ownsRow B' e size v n xs := by
  obtain ⟨h1, h2⟩ := h
  refine ⟨h1, ?_⟩
  rcases h2 with h2 | ⟨g, cap, cur, hv, hg, r⟩
  · exact Or.inl h2
  · exact Or.inr ⟨g, cap, cur, hv, Nat.le_trans hB hg, r⟩
set_option maxRecDepth 100000 in
theorem one_int (w : World) (x : Int) : ∀ j u, [i64v x][j]? = some u → (w.alloc (.cells #[.int .i64 x] 3)).cell? ((⟨w.heap.size, 0, none⟩ : Addr).add j) = some u := by
  intro j u hj
  rw [add_at, cell_of_row _ _ j #[.int .i64 x] 3 (0, 0) (heap_alloc_new _ _)]
  rw [← hj]; simp [i64v]
set_option maxRecDepth 100000 in
theorem i64v_one (l : List Int) : ∀ u ∈ l.map i64v, u.oneCell' = true := by
  intro u hu
  obtain ⟨x, _, rfl⟩ := List.mem_map.1 hu
  rfl
set_option maxRecDepth 100000 in
theorem OwnI.at {w : World} {B : Nat} {v : Value} {l : List Int} (h : OwnI w B v l) (h0 : 0 < l.length) : ∃ g cap, v = .slice (some ⟨g, 0, none⟩) l.length cap ∧ IAt w g 0 l := by
  have h' := h
  rcases h.2 with ⟨rfl, hn⟩ | ⟨g, cap, cur, rfl, _, hg, hnc, hcm, _⟩
  · omega
  · refine ⟨g, cap, rfl, fun j hj => ?_⟩
    rw [Nat.zero_add, h'.cellAt j (by omega)]
    simp [i64v, hj]
set_option maxRecDepth 100000 in
theorem own_keep {w w' : World} {B : Nat} {e : TypeId} {size : Nat} {v : Value} {n : Nat} {xs : List Value} (h : w.ownsRow B e size v n xs) (hb : Below w.heap.size w w') : w'.ownsRow B e size v n xs := by
  obtain ⟨h1, h2⟩ := h
  refine ⟨h1, ?_⟩
  rcases h2 with h2 | ⟨g, cap, cur, hv, hg, hh, r⟩
  · exact Or.inl h2
  · exact Or.inr ⟨g, cap, cur, hv, hg, by rw [hb.block g ((Array.getElem?_eq_some_iff.1 hh).1)]; exact hh, r⟩
set_option maxRecDepth 100000 in
theorem OwnI.row {w : World} {B g n cap : Nat} {l : List Int} (h : OwnI w B (.slice (some ⟨g, 0, none⟩) n cap) l) : IAt w g 0 l := fun j hj => by
  have h' := h
  rcases h.2 with ⟨h1, hn⟩ | ⟨g', cap', cur, h1, _, hg, hnc, hcm, _⟩
  · cases h1
  · simp only [Value.slice.injEq, Option.some.injEq, Addr.mk.injEq, and_true] at h1
    obtain ⟨rfl, rfl, rfl⟩ := h1
    rw [Nat.zero_add, h'.cellAt j (by omega)]
    simp [i64v, hj]
set_option maxRecDepth 100000 in
theorem info3f : ∃ i, Tryd.prog.info? 3 = some i ∧ i.zero = some (.int .i64 0) ∧ i.size = 1 ∧ i.bytes = 8 :=
  info_parts (by kernel_rfl)
set_option maxRecDepth 100000 in
set_option maxHeartbeats 800000 in
set_option maxHeartbeats 800000 in
theorem spec_vars (s : ByteArray) (a n : Nat) (w : World) (hs : s.size ≤ 1099511627776) (ha : a ≤ s.size) (hn : n ≤ 2) :
    Calls Tryd.prog 40 #[.string s, .int .i64 (a : Int), .int .i64 (n : Int)] w fun e w' => ∃ (v : Value) (r : Int), e = .returned (.tuple #[v, .int .i64 r]) ∧ Hid ((vL s a n = none ∧ r = -1) ∨ ∃ (xs : List Int) (b : Nat), vL s a n = some (xs, b) ∧ r = (b : Int) ∧ OwnI w' w.heap.size v xs) ∧ Below w.heap.size w w' := by
  obtain ⟨i0, hinf, hz0, hz1, hz2⟩ := info3f
  go_enter Tryd.func40, Tryd.ntmps40
  go_wp2
  go_loopw [9, 8, 1] (fun iv ov av wr => ∃ (k b : Nat) (q : Value) (xs : List Int), k ≤ n ∧ iv = .int .i64 k ∧ q = ov ∧ av = .int .i64 (b : Int) ∧ Hid (vL s a k = some (xs, b)) ∧ Hid (OwnI wr w.heap.size q xs) ∧ b ≤ s.size ∧ Below w.heap.size w wr) (fun iv _ _ _ => n - (intOf iv).toNat)
  case atStart => exact ⟨0, a, _, [], Nat.zero_le _, rfl, rfl, rfl, rfl, World.ownsRow_made w #[] 0 (Nat.le_refl _) (by decide) rfl, ha, (Below.refl _ _).alloc (Nat.le_refl _) _⟩
  case round =>
    obtain ⟨k, b, q, xs, hk, rfl, rfl, rfl, HV, HO, hb1, hb⟩ := hrel
    by_cases hlt : k < n
    · have hltz : (k : Int) < (n : Int) := by omega
      have hbz : (b : Int) ≤ (s.size : Int) := by omega
      have hbn : ¬ (s.size : Int) < (b : Int) := by omega
      obtain ⟨⟨x, m⟩, hr⟩ : ∃ r, rvAt s b = r := ⟨_, rfl⟩
      have kR := fun W => spec_rv (s.extract b s.size) W (by unfold maxLen; rw [ByteArray.size_extract]; omega)
      rw [drop_ext, show rv (s.data.toList.drop b) = (x, m) from hr] at kR
      have hrb := rvAt_bound s b
      rw [hr] at hrb
      obtain ⟨hm1, hx0, hx1, hx2, hm7⟩ := hrb
      have hm1' : b + m ≤ s.size := by simp only at hm1; omega
      have hxl := vL_len ha HV.out
      have HR : Hid (rvAt s b = (x, m)) := hr
      clear hr hm1 hx2
      simp only at kR hx0 hx1 hm7
      by_cases hm0 : m = 0
      · have HN : Hid (vL s a n = none) := by
          show _ = _
          have h1 : vL s a (k + 1) = none := vL_no HV.out (by rw [HR.out]; exact hm0)
          by_cases e : n = k + 1
          · rw [e]; exact h1
          · rw [show n = k + 1 + 1 from by omega]; exact vL_none h1
        subst hm0
        clear hxl
        go_wp2_with fail
        refine (kR _).mono ?_
        rintro e w1 ⟨rfl, hb2⟩
        have hb3 := hb.trans (hb2.mono hb.size)
        go_wp2
        go_ret2
        exact ⟨_, _, rfl, .inl ⟨HN.out, rfl⟩, hb3⟩
      · have HN : Hid (vL s a (k + 1) = some (xs ++ [x], b + m)) := by
          have := vL_go HV.out (show 0 < (rvAt s b).2 by rw [HR.out]; show 0 < m; omega)
          rw [HR.out] at this
          exact this
        have hmz : ¬ (m : Int) = 0 := by omega
        go_wp2_with fail
        refine (kR _).mono ?_
        rintro e w1 ⟨rfl, hb2⟩
        have hb3 := hb.trans (hb2.mono hb.size)
        have HO1 : Hid (OwnI (w1.alloc (.cells #[.int .i64 x] 3)) w.heap.size q xs) := World.ownsRow.alloc (own_keep HO.out hb2) _
        have HC : Hid (_) := one_int w1 x
        have hsz1 : w.heap.size ≤ w1.heap.size := hb3.size
        have hxl2 : xs.length ≤ 2 := by omega
        clear hb2 hxl kR
        go_wp2_with (at_builtin; refine wpList_append_own _ rfl _ _ 54 rfl w.heap.size 3 i0 (.int .i64 0) 1 8 Tryd.underlying54 hinf hz0 hz1 hz2 rfl (by decide) _ _ _ rfl HO1.out ⟨w1.heap.size, 0, none⟩ 1 1 ([i64v x]) rfl rfl HC.out (i64v_one [x]) (by unfold maxLen; omega) (by omega) (by simp; omega) ?_)
        intro v' w2 hown' hgrow _
        have HO3 : Hid (OwnI w2 w.heap.size v' (xs ++ [x])) := own_snocI hown'
        have hb4 := (hb3.alloc hb3.size (.cells #[.int .i64 x] 3)).grown hgrow (by simp; omega) (fun j hj => (HO.out.lt j hj).1)
        clear hgrow hown' HC HO1 HO
        go_wp2
        go_roundw
        case rel =>
          have R : ∃ (k' b' : Nat) (q : Value) (xs : List Int), k' ≤ n ∧ Value.int .i64 ((k : Int) + 1) = .int .i64 k' ∧ q = v' ∧ Value.int .i64 ((b : Int) + (m : Int)) = .int .i64 (b' : Int) ∧ Hid (vL s a k' = some (xs, b')) ∧ Hid (OwnI w2 w.heap.size q xs) ∧ b' ≤ s.size ∧ Below w.heap.size w w2 := ⟨k + 1, b + m, v', _, by omega, by go_num, rfl, by go_num, HN, HO3, hm1', hb4⟩
          first | exact R | ((repeat apply Exists.intro); exact ⟨R, rfl⟩)
        case measure => simp [intOf]; omega
    · have hltz : ¬ (k : Int) < (n : Int) := by omega
      have HN : Hid (vL s a n = some (xs, b)) := by show _ = _; rw [show n = k from by omega]; exact HV.out
      go_wp2
      go_ret2
      exact ⟨_, _, rfl, .inr ⟨xs, b, HN.out, rfl, HO.out⟩, hb⟩
set_option maxRecDepth 100000 in
set_option maxHeartbeats 400000 in
theorem spec_vars_neg (s : ByteArray) (a : Int) (n : Nat) (w : World) (ha : a < 0) (hn : 0 < (n : Int)) :
    Calls Tryd.prog 40 #[.string s, .int .i64 a, .int .i64 (n : Int)] w fun e w' => ∃ (v : Value), e = .returned (.tuple #[v, .int .i64 (-1)]) ∧ Below w.heap.size w w' := by
  go_enter Tryd.func40, Tryd.ntmps40
  go_wp2
  go_loopw [9, 8, 1] (fun iv ov av wr => iv = .int .i64 0 ∧ (∃ q : Value, q = ov) ∧ av = .int .i64 a ∧ Below w.heap.size w wr) (fun _ _ _ _ => 0)
  case atStart => exact ⟨rfl, ⟨_, rfl⟩, rfl, (Below.refl _ _).alloc (Nat.le_refl _) _⟩
  case round =>
    obtain ⟨rfl, ⟨q, rfl⟩, rfl, hb⟩ := hrel
    go_wp2
    go_ret2
    exact ⟨_, rfl, hb⟩
end Go.Proofs.YtdpjlfgfacjfeaaDoor
