/- What the program's own shaOfParts, LeafHash, NodeHash, firstLeaves, isLeafOf and strings.Clone answer; old memory stays. Conditions: texts of at most 2097152 bytes; the table of the hash lies where it was laid. -/
import Derived.Test.YtppkjpfofgfiaaaDoorIsf
import Derived.Test.YtppkjpfofgfiaaaDoorShelf
import Derived.Test.YtppkjpfofgfiaaaDoorCx
namespace Go.Proofs.YtppkjpfofgfiaaaDoor
open Go.RowKit
open Num
set_option linter.unusedVariables false
theorem sha_b (y : ByteArray) : (⟨(shal y.data.toList).toArray⟩ : ByteArray) = shaB y := rfl
set_option maxHeartbeats 400000 in
theorem impl_parts (b o c : Nat) (xs : List ByteArray) (y : ByteArray) (w : World) (hA : StrAt w b o xs) (hb : b < w.heap.size) (hN : xs.length ≤ 1000) (hc : xs.length ≤ c)
    (hy : (⟨(Lib.join (xs.map (·.data.toList)) []).toArray⟩ : ByteArray) = y) (hs : y.size ≤ 1099511627776) (hT : Tab w) :
    Calls Tryd.prog 64 #[.slice (some ⟨b, o, none⟩) xs.length c] w fun e w' => e = .returned (.string (shaB y)) ∧ Below w.heap.size w w' := by
  have HT : Hid (Tab w) := hT
  have HJ : Hid (Calls Tryd.prog 31 #[.slice (some ⟨b, o, none⟩) xs.length c, .string ⟨#[]⟩] w fun e w' => e = .returned (.string y) ∧ Below w.heap.size w w') := by
    have hsz : (Lib.join (xs.map (·.data.toList)) []).length ≤ 140737488355328 := by
      have : (Lib.join (xs.map (·.data.toList)) []).length = y.size := by rw [← hy]; simp [ByteArray.size]
      omega
    have h := Tryd.strings_Join b o c xs ⟨#[]⟩ w (fun j x hx => by
      obtain ⟨hj, rfl⟩ := List.getElem?_eq_some_iff.1 hx
      exact hA j hj) hb (by omega) hc hsz
    refine h.mono fun e w' ⟨he, hw⟩ => ⟨he.trans ?_, hw⟩
    rw [← hy]
  clear hA hT hy
  go_enter Tryd.func64, Tryd.ntmps64
  go_wp2_with fail
  refine HJ.out.mono ?_
  rintro e w1 ⟨rfl, hb1⟩
  go_wp2_with fail
  refine (impl_sha y w1 hs (HT.out.below hb1 HT.out.pos)).mono ?_
  rintro e w2 ⟨rfl, hb2⟩
  rw [sha_b]
  have hb3 := hb1.trans (hb2.mono hb1.size)
  clear hb1 hb2
  go_wp2
  go_ret
  exact ⟨rfl, hb3⟩
theorem below_a1 (w : World) (o1 : Obj) : Below w.heap.size w (w.alloc o1) := (Below.refl _ _).alloc (Nat.le_refl _) o1
theorem strAt_new (w : World) (xs : List ByteArray) : StrAt (w.alloc (.cells (xs.map Value.string).toArray 9)) w.heap.size 0 xs := fun j hj => by
  rw [Nat.zero_add, World.cell?_alloc_at _ _ _ _ rfl]
  simp [hj]
theorem joined2 (a x : ByteArray) : (⟨(Lib.join ([a, x].map (·.data.toList)) []).toArray⟩ : ByteArray) = a ++ x := by
  apply ByteArray.ext
  simp [Lib.join_cons, Lib.joinTail, ByteArray.data_append]
theorem joined3 (a x y : ByteArray) : (⟨(Lib.join ([a, x, y].map (·.data.toList)) []).toArray⟩ : ByteArray) = a ++ x ++ y := by
  apply ByteArray.ext
  simp [Lib.join_cons, Lib.joinTail, ByteArray.data_append]
set_option maxHeartbeats 400000 in
theorem impl_leaf (x : ByteArray) (w : World) (hx : x.size ≤ 1099511627000) (hT : Tab w) :
    Calls Tryd.prog 47 #[.string x] w fun e w' => e = .returned (.string (leafH x)) ∧ Below w.heap.size w w' := by
  have HC : Hid (Calls Tryd.prog 64 #[.slice (some ⟨w.heap.size, 0, none⟩) 2 2] (w.alloc (.cells #[.string ⟨#[0]⟩, .string x] 9)) fun e w' => e = .returned (.string (leafH x)) ∧ Below w.heap.size w w') := by
    have hb := below_a1 w (.cells #[.string ⟨#[0]⟩, .string x] 9)
    refine (impl_parts w.heap.size 0 2 [⟨#[0]⟩, x] ((⟨#[0]⟩ : ByteArray) ++ x) _ (strAt_new w [⟨#[0]⟩, x]) (by simp) (by simp) (by simp) (joined2 _ _) ?_ (hT.below hb hT.pos)).mono fun e w' ⟨he, hw⟩ => ⟨he, hb.trans (hw.mono hb.size)⟩
    rw [ByteArray.size_append, size_zero]; omega
  clear hT
  go_enter Tryd.func47, Tryd.ntmps47
  go_wp2_with fail
  refine HC.out.mono ?_
  rintro e w1 ⟨rfl, hb1⟩
  go_wp2
  go_ret
  exact ⟨rfl, hb1⟩
set_option maxHeartbeats 400000 in
theorem impl_node (x y : ByteArray) (w : World) (hx : x.size ≤ 10995116270) (hy : y.size ≤ 10995116270) (hT : Tab w) :
    Calls Tryd.prog 49 #[.string x, .string y] w fun e w' => e = .returned (.string (nodeH x y)) ∧ Below w.heap.size w w' := by
  have HC : Hid (Calls Tryd.prog 64 #[.slice (some ⟨w.heap.size, 0, none⟩) 3 3] (w.alloc (.cells #[.string ⟨#[1]⟩, .string x, .string y] 9)) fun e w' => e = .returned (.string (nodeH x y)) ∧ Below w.heap.size w w') := by
    have hb := below_a1 w (.cells #[.string ⟨#[1]⟩, .string x, .string y] 9)
    refine (impl_parts w.heap.size 0 3 [⟨#[1]⟩, x, y] ((⟨#[1]⟩ : ByteArray) ++ x ++ y) _ (strAt_new w [⟨#[1]⟩, x, y]) (by simp) (by simp) (by simp) (joined3 _ _ _) ?_ (hT.below hb hT.pos)).mono fun e w' ⟨he, hw⟩ => ⟨he, hb.trans (hw.mono hb.size)⟩
    rw [ByteArray.size_append, ByteArray.size_append, size_one]; omega
  clear hT
  go_enter Tryd.func49, Tryd.ntmps49
  go_wp2_with fail
  refine HC.out.mono ?_
  rintro e w1 ⟨rfl, hb1⟩
  go_wp2
  go_ret
  exact ⟨rfl, hb1⟩
set_option maxHeartbeats 400000 in
theorem impl_split (n : Nat) (hn : 2 ≤ n) (hm : n ≤ 1048576) (w : World) :
    Calls Tryd.prog 48 #[.int .i64 (n : Int)] w fun e w' => e = .returned (.int .i64 ((spl n : Nat) : Int)) ∧ w' = w := by
  go_enter Tryd.func48, Tryd.ntmps48
  go_wp2
  go_loop [3] (fun k => ∃ j : Nat, 1 ≤ j ∧ j < n ∧ k = .int .i64 j ∧ Hid (spl n = splF n n j)) (fun k => n - (intOf k).toNat)
  case atStart => exact ⟨1, by omega, by omega, rfl, rfl⟩
  case round =>
    obtain ⟨j, hj1, hj2, rfl, HJ⟩ := hrel
    by_cases hlt : 2 * j < n
    · have HN : Hid (spl n = splF n n (2 * j)) := spl_step n j hj1 hlt HJ.out
      have hlt' : 2 * (j : Int) < (n : Int) := by omega
      go_wp2
      go_round
      case rel => exact ⟨2 * j, by omega, by omega, by go_num, HN⟩
      case measure => simp [intOf]; omega
    · have HN : Hid (spl n = j) := spl_end n j hlt HJ.out
      have hlt' : ¬ 2 * (j : Int) < (n : Int) := by omega
      go_wp2
      go_ret
      exact ⟨by rw [HN.out]; rfl, rfl⟩
def leafOf (i n : Int) : Bool := decide (0 ≤ i ∧ i < n ∧ n ≤ 40)
set_option maxHeartbeats 400000 in
theorem impl_isLeaf (i n : Int) (hi0 : -9223372036854775808 ≤ i) (hi1 : i ≤ 9223372036854775807) (hn0 : -9223372036854775808 ≤ n) (hn1 : n ≤ 9223372036854775807) (w : World) :
    Calls Tryd.prog 50 #[.int .i64 i, .int .i64 n] w fun e w' => e = .returned (.bool (leafOf i n)) ∧ w' = w := by
  by_cases h1 : 0 ≤ i
  · by_cases h2 : i < n
    · by_cases h3 : n ≤ 40
      · have HL : Hid (leafOf i n = true) := by show _ = _; simp [leafOf, h1, h2, h3]
        go_enter Tryd.func50, Tryd.ntmps50
        go_wp2
        go_ret
        exact ⟨by rw [HL.out]; first | rfl | simp_all, rfl⟩
      · have HL : Hid (leafOf i n = false) := by show _ = _; simp [leafOf, h3]
        go_enter Tryd.func50, Tryd.ntmps50
        go_wp2
        go_ret
        exact ⟨by rw [HL.out]; first | rfl | simp_all, rfl⟩
    · have HL : Hid (leafOf i n = false) := by show _ = _; simp [leafOf, h2]
      go_enter Tryd.func50, Tryd.ntmps50
      go_wp2
      go_ret
      exact ⟨by rw [HL.out]; first | rfl | simp_all, rfl⟩
  · have HL : Hid (leafOf i n = false) := by show _ = _; simp [leafOf, h1]
    go_enter Tryd.func50, Tryd.ntmps50
    go_wp2
    go_ret
    exact ⟨by rw [HL.out]; first | rfl | simp_all, rfl⟩
set_option maxHeartbeats 400000 in
theorem impl_clone (s : ByteArray) (w : World) (hs : s.size ≤ 281474976710656) :
    Calls Tryd.prog 72 #[.string s] w fun e w' => e = .returned (.string s) ∧ Below w.heap.size w w' := by
  go_enter Tryd.func72, Tryd.ntmps72
  go_wp2_with fail
  refine (Tryd.stringslite_Clone s w hs).mono ?_
  rintro e w1 ⟨rfl, hb1⟩
  go_wp2
  go_ret
  exact ⟨rfl, hb1⟩
end Go.Proofs.YtppkjpfofgfiaaaDoor
