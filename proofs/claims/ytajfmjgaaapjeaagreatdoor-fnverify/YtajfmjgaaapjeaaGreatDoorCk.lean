/- What impl.CommitVals answers; old memory stays. Conditions: rows that a machine can hold, the table. -/
import Derived.Test.YtajfmjgaaapjeaaGreatDoorCu
import Derived.Test.YtajfmjgaaapjeaaGreatDoorShelf
import Derived.Shelf.Slices.In.SortNone
import Derived.Lib.OwnBridge
namespace Go.Proofs.YtajfmjgaaapjeaaGreatDoor
open Go.RowKit Go.Maps
open Num
set_option linter.unusedVariables false
theorem own_still {W W' : World} {B n : Nat} {e : TypeId} {size : Nat} {r : Option Nat} {v : Value} {xs : List Value} (h : W.ownsRow B e size v n xs) (hg : W.grownBy W' r) (hr : ∀ j, r = some j → j < B) : W'.ownsRow B e size v n xs := by
  obtain ⟨h1, h2⟩ := h
  refine ⟨h1, ?_⟩
  rcases h2 with h2 | ⟨g, cap, cur, hv, hb, hh, r'⟩
  · exact Or.inl h2
  · exact Or.inr ⟨g, cap, cur, hv, hb, by rw [hg.block g ((Array.getElem?_eq_some_iff.1 hh).1) (fun e => by have := hr g e.symm; omega)]; exact hh, r'⟩
def srt (zs : List Int) : List Int := zs.mergeSort fun x y => decide (x ≤ y)
theorem grow_block (w : World) (os : Array Obj) (g : Nat) (h : g < w.heap.size) : (Go.Sort.grow w os).heap[g]? = w.heap[g]? := by
  unfold Go.Sort.grow; simp [Array.getElem?_append_left h]
theorem below_grow {B : Nat} {w0 w : World} (os : Array Obj) (h : Below B w0 w) (hB : B ≤ w.heap.size) : Below B w0 (Go.Sort.grow w os) :=
  ⟨h.os, h.tape, h.output, by have := h.size; unfold Go.Sort.grow; simp; omega, fun k hk => by rw [grow_block w os k (by omega)]; exact h.block k hk⟩
theorem own_grow {w : World} {B : Nat} {v : Value} {l : List Int} (os : Array Obj) (h : OwnI w B v l) : OwnI (Go.Sort.grow w os) B v l := by
  obtain ⟨h1, h2⟩ := h
  refine ⟨h1, ?_⟩
  rcases h2 with h2 | ⟨g, cap, cur, hv, hg, hh, r⟩
  · exact Or.inl h2
  · exact Or.inr ⟨g, cap, cur, hv, hg, by rw [grow_block w os g (Array.getElem?_eq_some_iff.1 hh).1]; exact hh, r⟩
set_option maxHeartbeats 400000 in
set_option maxRecDepth 100000 in
theorem sort_own (v : Value) (zs : List Int) (B : Nat) (w : World) (h : OwnI w B v zs) (hB : B ≤ w.heap.size) (hz : zs.length ≤ 1000) :
    Calls Tryz.prog 119 #[v] w fun e w' => e = .returned (.tuple #[]) ∧ OwnI w' B v (srt zs) ∧ Below B w w' := by
  by_cases h0 : zs = []
  · subst h0
    obtain ⟨a, c, rfl⟩ : ∃ a c, v = .slice a 0 c := by
      rcases h.2 with ⟨rfl, _⟩ | ⟨g, cap, cur, rfl, _⟩
      · exact ⟨_, _, rfl⟩
      · exact ⟨_, _, rfl⟩
    refine (Any.slices_Sort_int_none Tryz.lays189 a c w).mono ?_
    rintro e w' ⟨rfl, rfl⟩
    exact ⟨rfl, by unfold srt; rw [List.mergeSort_nil]; exact h, Below.refl _ _⟩
  · have hv : v ≠ .slice none 0 0 := fun e => by
      rcases h.2 with ⟨_, hn⟩ | ⟨g, cap, cur, e', _⟩
      · exact h0 (List.eq_nil_of_length_eq_zero hn)
      · rw [e'] at e; cases e
    have h' : w.ownsRow B 3 1 v zs.length (zs.map (Value.int .i64)) := h
    obtain ⟨g, cap, rfl, hBg, hlt, _, _, _, hH⟩ := Go.Lib.holds_of_ownsRow h' hv
    refine (Tryz.slices_Sort_int g 0 cap zs w hH hlt (by omega)).mono ?_
    rintro e w' ⟨rfl, n, os, rfl⟩
    have hl : (srt zs).length = zs.length := List.length_mergeSort _
    have hp := Go.Lib.ownsRow_putRow (q := n) (k := zs.length) (ys := srt zs) h' hl (Nat.le_refl _)
    rw [List.take_of_length_le (by omega)] at hp
    refine ⟨rfl, own_grow os ?_, below_grow os (Go.Lib.below_putRow (Below.refl _ _) hBg) (by simp [Go.Sort.putRow, Go.Sort.mapBlock, Go.Sort.ahead]; exact hB)⟩
    show World.ownsRow _ B 3 1 _ (srt zs).length ((srt zs).map i64v)
    rw [hl]; exact hp
set_option maxHeartbeats 3200000 in
set_option maxRecDepth 100000 in
theorem impl_cv (x : Ct) (a : Option Addr) (cap : Nat) (w : World) (hl : SO w a x.l) (hlen : x.l.length ≤ 9223372036854775807) (hT : Tab w) :
    Calls Tryz.prog 100 #[cV x a cap] w fun e w' => ∃ q, e = .returned q ∧ OwnI w' w.heap.size q (cv x) ∧ Below w.heap.size w w' := by
  obtain ⟨i0, hinf, hz0, hz1', hz2⟩ := info3f
  have HX : Hid (Blk (w.alloc (.cells (ccs x a cap).toArray 33)) w.heap.size (ccs x a cap) 33) := blk_new w _ _
  have HB : Hid (Below w.heap.size w (w.alloc (.cells (ccs x a cap).toArray 33))) := below_one _ _
  have HL : Hid (SO (w.alloc (.cells (ccs x a cap).toArray 33)) a x.l) := hl.below (below_one _ _)
  have HT : Hid (Tab (w.alloc (.cells (ccs x a cap).toArray 33))) := hT.below (below_one _ _) hT.pos
  clear hl hT
  by_cases h12 : 12 < x.l.length
  · rw [cv_many h12]
    obtain ⟨h, r, i, l⟩ := x
    unfold cV at *
    unfold ccs at *
    simp only at HX HB hlen h12 ⊢
    have hz : (12 : Int) < (l.length : Int) := by omega
    have x3 := HX.out.cell 3 rfl
    go_enter Tryz.func100, Tryz.ntmps100
    go_wp2
    go_ret
    exact ⟨_, rfl, World.ownsRow_nil _ _ _ _, HB.out⟩
  rw [cv_few (by omega)]
  have hz : ¬ (12 : Int) < (x.l.length : Int) := by omega
  have hl12 : x.l.length ≤ 12 := by omega
  have kS := fun W (h : SO W a x.l) (hT : Tab W) => impl_signers x a cap W h hl12 hT
  have HEnd : Hid (∀ zs : List Int, zs.Nodup → (∀ z, z ∈ zs ↔ sgd x z = true) → srt zs = cvN x 99) := fun zs h1 h2 => cv_sort h1 h2
  generalize sgd x = F at *
  generalize cvN x 99 = N at *
  obtain ⟨h, r, i, l⟩ := x
  unfold cV at *
  unfold ccs at *
  simp only at HX HB HL HT kS hlen h12 hz hl12 ⊢
  have x0 := HX.out.cell 0 rfl
  have x1 := HX.out.cell 1 rfl
  have x2 := HX.out.cell 2 rfl
  have x3 := HX.out.cell 3 rfl
  go_enter Tryz.func100, Tryz.ntmps100
  go_wp2_with fail
  generalize w.alloc (Obj.cells #[Value.int .i64 h, Value.int .i64 r, Value.string i, Value.slice a l.length cap] 33) = w1 at *
  refine (kS _ HL.out HT.out).mono ?_
  rintro e w2 ⟨rfl, D, hM, hD, b2⟩
  have HD : Hid (∀ z, has D (.int .i64 z) = F z) := hD
  have HM : Hid (w2.ownsMap Tryz.prog 3 unitElem (w1.heap.size + 1) l.length D) := hM
  have HB2 : Hid (Below w.heap.size w w2) := HB.out.trans (b2.mono HB.out.size)
  have hmw : w1.heap.size + 1 < w2.heap.size := hM.lt
  have hw1 : w.heap.size ≤ w1.heap.size := HB.out.size
  have HSz : Hid (Maps.size D ≤ l.length) := hM.size_le
  obtain ⟨m, hm⟩ : ∃ m, w1.heap.size + 1 = m := ⟨_, rfl⟩
  rw [hm] at hmw ⊢
  have HM' : Hid (w2.ownsMap Tryz.prog 3 unitElem m l.length D) := by rw [← hm]; exact HM.out
  have hwm : w.heap.size < m := by omega
  clear hM hD b2 hm HM HX HB HL HT kS x0 x1 x2 x3
  go_wp2_with (first | (at_range; refine wpList_range_own _ rfl _ 159 rfl 3 183 law3 Tryz.underlying159 _ m _ _ rfl HM'.out ?_; intro w0 hrg0 hg0 hs0) | go_in)
  obtain ⟨R, hR⟩ : ∃ R, w2.heap.size = R := ⟨_, rfl⟩
  have HRG0 : Hid (w0.ranges Tryz.prog 3 unitElem m R l.length D (has D) (Maps.size D)) := by rw [← hR]; exact hrg0
  have HB0 : Hid (Below w.heap.size w w0) := HB2.out.grown hg0 HB2.out.size (fun j hj => by cases hj)
  have hR0 : w0.heap.size = R + 1 := by omega
  have hmR : m < R := by omega
  rw [hR]
  clear hrg0 hg0 hs0 hR HM' HB2
  go_frame
  go_loopw [4, 3] (fun vv ov wr => ∃ (left : Lit → Bool) (cnt : Nat) (zs : List Int) (q : Value), q = ov ∧ Hid (wr.ranges Tryz.prog 3 unitElem m R l.length D left cnt) ∧ Hid (zs.length + cnt ≤ l.length) ∧ Hid (Coll D left zs) ∧ Hid (OwnI wr (R + 1) q zs) ∧ Hid (Below w.heap.size w wr)) (fun _ _ wr => wr.rangeLeft m R)
  case atStart => exact ⟨_, _, [], _, rfl, HRG0, by have := HSz.out; show 0 + _ ≤ _; omega, coll_start D, World.ownsRow_nil _ _ _ _, HB0⟩
  case round =>
    obtain ⟨left, cnt, zs, q, rfl, HRG, HLn, HC, HO, HBr⟩ := hrel
    clear HRG0 HB0 HSz hR0
    have hRw : R < wr.heap.size := HRG.out.lt
    go_wp2_with (first
      | (at_next; refine wpList_next_ranges _ rfl _ rfl 3 law3 unitElem (Value.int .i64) (fun _ : Unit => .agg #[]) (fun key kl hkey => by obtain ⟨z, rfl, _⟩ := Maps.keyOf_int_inv Tryz.underlying3 hkey; exact ⟨z, rfl⟩) (fun v y hv => ⟨(), (unitElem_inv hv).1⟩) m R l.length _ _ _ rfl HRG.out ?_ ?_)
      | go_in)
    · intro hc0 hl0
      have HE : Hid (srt zs = N) := HEnd.out zs HC.out.1 (fun z => by rw [HC.out.done hl0 z, HD.out])
      have kSo := sort_own q zs (R + 1) wr HO.out hRw (by have := HLn.out; omega)
      clear hc0 hl0
      go_wp2_with fail
      refine kSo.mono ?_
      rintro e w5 ⟨rfl, ho, b5⟩
      have HO5 : Hid (OwnI w5 (R + 1) q (srt zs)) := ho
      have HB5 : Hid (Below w.heap.size w w5) := HBr.out.trans (b5.mono (by omega))
      clear ho b5
      go_wp2
      go_ret
      exact ⟨_, rfl, own_less (by rw [← HE.out]; exact HO5.out) (by omega), HB5.out⟩
    · intro z c kl y w3 cnt1 hkey hlk hv hat hrg1 hlt hg1 hs1 hen
      obtain ⟨z', ez, rfl, hwz⟩ := Maps.keyOf_int_inv Tryz.underlying3 hkey
      cases ez
      have HC1 : Hid (Coll D (fun u => left u && !u.sameKey (.int .i64 z)) (zs ++ [z])) := HC.out.step hlk hat
      have HO1 : Hid (OwnI (w3.alloc (.cells #[.int .i64 z] 3)) (R + 1) q zs) := own_keep (own_still HO.out hg1 (fun j e => by injection e; omega)) (below_one _ _)
      have HRG1 : Hid (w3.ranges Tryz.prog 3 unitElem m R l.length D (fun u => left u && !u.sameKey (.int .i64 z)) cnt1) := hrg1
      have HB1 : Hid (Below w.heap.size w (w3.alloc (.cells #[.int .i64 z] 3))) := (HBr.out.grown hg1 HBr.out.size (fun j hj => by injection hj; omega)).alloc (by have := HBr.out.size; omega) _
      have HCe : Hid (_) := i64_row w3 z w3.heap.size rfl
      have hsz3 : R < w3.heap.size := by omega
      have hzl : zs.length ≤ 12 := by have := HLn.out; omega
      clear hrg1 hg1 hs1 hkey hv hlk hat
      go_wp2_with (at_builtin; refine wpList_append_own _ rfl _ _ 42 rfl (R + 1) 3 i0 (.int .i64 0) 1 8 Tryz.underlying42 hinf hz0 hz1' hz2 rfl (by decide) _ _ _ rfl HO1.out ⟨w3.heap.size, 0, none⟩ 1 1 ([i64v z]) rfl rfl HCe.out (i64v_one [z]) (by unfold maxLen; omega) (by omega) (by simp; omega) ?_)
      intro v' w4 hown' hgrow _
      have hqb : ∀ j, q.ownBlock = some j → R + 1 ≤ j := fun j e => (HO1.out.lt j e).1
      have HO4 : Hid (OwnI w4 (R + 1) v' (zs ++ [z])) := own_snocI hown'
      have HRG4 : Hid (w4.ranges Tryz.prog 3 unitElem m R l.length D (fun u => left u && !u.sameKey (.int .i64 z)) cnt1) := (HRG1.out.alloc _).kept hgrow (fun e => by have := hqb _ e.symm; omega) (fun e => by have := hqb _ e.symm; omega)
      have HB4 : Hid (Below w.heap.size w w4) := HB1.out.grown hgrow HB1.out.size (fun j hj => by have := hqb j hj; omega)
      have HLn4 : Hid ((zs ++ [z]).length + cnt1 ≤ l.length) := by have := HLn.out; show _ ≤ _; rw [List.length_append]; simp; omega
      clear hown' hgrow hqb HO1 HRG1 HB1 HCe HO HC HLn
      go_wp2
      go_roundw
      case rel =>
        have R' : ∃ (left' : Lit → Bool) (cnt' : Nat) (zs' : List Int) (q' : Value), q' = v' ∧ Hid (w4.ranges Tryz.prog 3 unitElem m R l.length D left' cnt') ∧ Hid (zs'.length + cnt' ≤ l.length) ∧ Hid (Coll D left' zs') ∧ Hid (OwnI w4 (R + 1) q' zs') ∧ Hid (Below w.heap.size w w4) := ⟨_, _, _, _, rfl, HRG4, HLn4, HC1, HO4, HB4⟩
        first | exact R' | ((repeat apply Exists.intro); exact ⟨R', rfl⟩)
      case measure => rw [HRG4.out.left_eq, HRG.out.left_eq]; exact hlt
end Go.Proofs.YtajfmjgaaapjeaaGreatDoor
