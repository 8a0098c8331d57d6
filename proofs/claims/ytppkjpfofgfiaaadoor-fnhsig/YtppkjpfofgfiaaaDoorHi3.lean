/- What strings.Join without a separator, impl.HsPub, hsPubs and HsRoot answer; old memory stays. Conditions: seeds of at most 2 to the 40 bytes, nearly; the table. -/
import Derived.Test.YtppkjpfofgfiaaaDoorHi2
import Derived.Test.YtppkjpfofgfiaaaDoorHs4
namespace Go.Proofs.YtppkjpfofgfiaaaDoor
open Go.RowKit
open Num
set_option linter.unusedVariables false
theorem join_flat : ∀ xs : List (List UInt8), Lib.join xs [] = xs.flatten
  | [] => rfl
  | x :: r => by rw [Lib.join_cons, List.flatten_cons]; unfold Lib.joinTail; simp
theorem joined (xs : List ByteArray) : (⟨(Lib.join (xs.map (·.data.toList)) []).toArray⟩ : ByteArray) = cat xs := by rw [join_flat]; rfl
theorem impl_join (b o c : Nat) (xs : List ByteArray) (w : World) (hA : StrAt w b o xs) (hb : b < w.heap.size) (hN : xs.length ≤ 1000) (hc : xs.length ≤ c) (hs : (cat xs).size ≤ 1099511627776) :
    Calls Tryd.prog 31 #[.slice (some ⟨b, o, none⟩) xs.length c, .string ⟨#[]⟩] w fun e w' => e = .returned (.string (cat xs)) ∧ Below w.heap.size w w' := by
  have hsz : (Lib.join (xs.map (·.data.toList)) []).length ≤ 140737488355328 := by
    have : (Lib.join (xs.map (·.data.toList)) []).length = (cat xs).size := by rw [← joined]; simp [ByteArray.size]
    omega
  have h := Tryd.strings_Join b o c xs ⟨#[]⟩ w (fun j x hx => by
    obtain ⟨hj, rfl⟩ := List.getElem?_eq_some_iff.1 hx
    exact hA j hj) hb (by omega) hc hsz
  refine h.mono fun e w' ⟨he, hw⟩ => ⟨he.trans ?_, hw⟩
  rw [← joined]
/-- An array of n texts, the first k of them written. -/
def parts (f : Nat → ByteArray) (n k : Nat) : List Value := ((List.range k).map f).map sv ++ List.replicate (n - k) (sv ⟨#[]⟩)
theorem parts_set (f : Nat → ByteArray) (n k : Nat) (h : k < n) : (parts f n k).set k (sv (f k)) = parts f n (k + 1) := by
  unfold parts
  rw [show n - k = (n - (k + 1)) + 1 from by omega, List.replicate_succ, List.set_append_right _ _ (by simp)]
  rw [List.range_succ, List.map_append, List.map_append]
  simp
theorem parts_behind (f : Nat → ByteArray) (n k : Nat) (h : k < n) : (parts f n k)[k]? = some (sv ⟨#[]⟩) := by
  unfold parts
  rw [List.getElem?_append_right (by simp), List.getElem?_replicate, if_pos (by simp; omega)]
theorem parts_zero (f : Nat → ByteArray) (n : Nat) : parts f n 0 = List.replicate n (sv ⟨#[]⟩) := rfl
theorem parts_full (f : Nat → ByteArray) (n : Nat) : parts f n n = ((List.range n).map f).map sv := by
  unfold parts; simp
theorem au_str {w : World} {g : Nat} {t : TypeId} {l : List ByteArray} (h : Au w g t (l.map sv)) : StrAt w g 0 l := fun j hj => by
  rw [Nat.zero_add]
  exact h.cell (by rw [List.getElem?_map, List.getElem?_eq_getElem hj]; rfl)
theorem zeroS : (∀ w, (zeroValue 40).run Tryd.prog w = .ok (.agg (List.replicate 11 (sv ⟨#[]⟩)).toArray) w) ∧ (Tryd.prog.info? 40).map (·.size) = some 11 := zero_of_info (by kernel_rfl)
theorem zeroP : (∀ w, (zeroValue 55).run Tryd.prog w = .ok (.agg (List.replicate 4 (sv ⟨#[]⟩)).toArray) w) ∧ (Tryd.prog.info? 55).map (·.size) = some 4 := zero_of_info (by kernel_rfl)
set_option maxHeartbeats 1600000 in
theorem impl_pub (l : Nat) (hl : l < 4) (x : ByteArray) (w : World) (hx : x.size ≤ 1099511627000) (hT : Tab w) :
    Calls Tryd.prog 22 #[.string x, .int .i64 (l : Int)] w fun e w' => e = .returned (.string (hPub x l)) ∧ Below w.heap.size w w' := by
  obtain ⟨Z, HZ⟩ : ∃ Z : List Value, Hid (Z = List.replicate 11 (sv ⟨#[]⟩)) := ⟨_, rfl⟩
  have hz := zeroS.1
  rw [← HZ.out] at hz
  have hmf : ∀ (fn : Fn) (first cap : Array Value) (w : World), (Instr.makeFunc fn first cap).run Tryd.prog w = .ok (.func fn first cap) w := fun _ _ _ _ => rfl
  have kI := fun W => impl_leafIs (l : Int) (by omega) (by omega) W
  rw [leafIs_of l hl] at kI
  have HT : Hid (Tab w) := hT
  clear hT
  have HA0 : Hid (Au (w.alloc (.cells Z.toArray 40)) w.heap.size 40 (parts (endOf x l) 11 0)) := by
    rw [parts_zero, ← HZ.out]; exact Au.new w 40 Z
  have hb0 : Below w.heap.size w (w.alloc (.cells Z.toArray 40)) := (Below.refl _ _).alloc (Nat.le_refl _) _
  go_enter Tryd.func22, Tryd.ntmps22
  go_wp2_with fail
  refine (kI w).mono ?_
  rintro e w1 ⟨rfl, rfl⟩
  go_wp2
  go_loopw [10] (fun cv wr => ∃ (k : Nat), cv = .int .i64 k ∧ k ≤ 11 ∧ Hid (Au wr w1.heap.size 40 (parts (endOf x l) 11 k)) ∧ Below w1.heap.size w1 wr) (fun cv _ => 11 - (intOf cv).toNat)
  case atStart => exact ⟨0, rfl, by omega, HA0, hb0⟩
  case round =>
    clear HA0 hb0
    obtain ⟨k, rfl, hk, HR, hb⟩ := hrel
    by_cases hlt : k < 11
    · have hlt' : (k : Int) < 11 := by omega
      have kG : ∀ W, Tab W → Calls Tryd.prog 28 #[linkOf k, .string (hSec x l k), .int .i64 0, .int .i64 3] W fun e w' => e = .returned (.string (endOf x l k)) ∧ Below W.heap.size W w' := fun W hW => impl_walk k 0 3 hlt (by omega) (by omega) (hSec x l k) W (size_shortB _) hW
      obtain ⟨y, hy⟩ : ∃ y, y = endOf x l k := ⟨_, rfl⟩
      rw [← hy] at kG
      have HY : Hid (y = endOf x l k) := hy
      clear hy
      go_wp2_with fail
      refine (impl_secret l k hl hlt x wr hx (HT.out.below hb HT.out.pos)).mono ?_
      rintro e w2 ⟨rfl, hb2⟩
      have hb02 := hb.trans (hb2.mono hb.size)
      go_wp2_with fail
      refine (kG w2 (HT.out.below hb02 HT.out.pos)).mono ?_
      rintro e w3 ⟨rfl, hb3⟩
      have hb03 := hb02.trans (hb3.mono hb02.size)
      have HR3 : Hid (Au w3 w1.heap.size 40 (parts (endOf x l) 11 k)) := (HR.out.below hb2).below hb3
      have hc : w3.cell? ⟨w1.heap.size, k, none⟩ = some (sv ⟨#[]⟩) := HR3.out.cell (parts_behind _ 11 k hlt)
      have hf : w3.frozen? ⟨w1.heap.size, k, none⟩ = false := HR3.out.frozen k
      have HR4 : Hid (Au (w3.setCell ⟨w1.heap.size, k, none⟩ (.string y)) w1.heap.size 40 (parts (endOf x l) 11 (k + 1))) := by
        have := HR3.out.set k (sv (endOf x l k))
        rw [parts_set _ 11 k hlt] at this
        rw [HY.out]; exact this
      have hb4 : Below w1.heap.size w1 (w3.setCell ⟨w1.heap.size, k, none⟩ (.string y)) := hb03.setCell (p := ⟨w1.heap.size, k, none⟩) (Nat.le_refl _) _
      clear hb2 hb3 hb02 hb hb03
      go_wp2
      go_roundw
      case rel =>
        have R : ∃ (k' : Nat), Value.int .i64 ((k : Int) + 1) = .int .i64 k' ∧ k' ≤ 11 ∧ Hid (Au (w3.setCell ⟨w1.heap.size, k, none⟩ (.string y)) w1.heap.size 40 (parts (endOf x l) 11 k')) ∧ Below w1.heap.size w1 (w3.setCell ⟨w1.heap.size, k, none⟩ (.string y)) :=
          ⟨k + 1, by simp, by omega, HR4, hb4⟩
        first | exact R | ((repeat apply Exists.intro); exact ⟨R, rfl⟩)
      case measure => simp [intOf]; omega
    · obtain rfl : k = 11 := by omega
      have HS : Hid (StrAt wr w1.heap.size 0 ((List.range 11).map (endOf x l))) := by
        have := HR.out
        rw [parts_full] at this
        exact au_str this
      have HLT : Hid (w1.heap.size < wr.heap.size) := HR.out.lt
      have HSZ : Hid ((cat ((List.range 11).map (endOf x l))).size ≤ 1099511627776) := by
        have := size_catK _ (size_endOf x l) 11
        unfold catK at this
        show _ ≤ _
        rw [this]; decide
      go_wp2_with fail
      refine (impl_join w1.heap.size 0 11 ((List.range 11).map (endOf x l)) wr HS.out HLT.out (by simp) (by simp) HSZ.out).mono ?_
      rintro e w2 ⟨rfl, hb2⟩
      have hb02 := hb.trans (hb2.mono hb.size)
      clear hb2
      go_wp2_with fail
      refine (impl_short _ w2 HSZ.out (HT.out.below hb02 HT.out.pos)).mono ?_
      rintro e w3 ⟨rfl, hb3⟩
      have hb03 := hb02.trans (hb3.mono hb02.size)
      go_wp2
      go_ret
      exact ⟨rfl, hb03⟩
theorem impl_pubI (l : Int) (hl0 : -9223372036854775808 ≤ l) (hl1 : l ≤ 9223372036854775807) (x : ByteArray) (w : World) (hx : x.size ≤ 1099511627000) (hT : Tab w) :
    Calls Tryd.prog 22 #[.string x, .int .i64 l] w fun e w' => e = .returned (.string (pubI x l)) ∧ Below w.heap.size w w' := by
  have kI := fun W => impl_leafIs l hl0 hl1 W
  rcases hI : leafIs l with _ | _
  · have HE : Hid (pubI x l = ⟨#[]⟩) := pubI_no l hI x
    rw [hI] at kI
    clear hI
    go_enter Tryd.func22, Tryd.ntmps22
    go_wp2_with fail
    refine (kI w).mono ?_
    rintro e w1 ⟨rfl, rfl⟩
    go_wp2
    go_ret
    exact ⟨by rw [HE.out]; rfl, Below.refl _ _⟩
  · obtain ⟨t, rfl, ht⟩ := leaf_nat hI
    rw [pubI_of t ht]
    exact impl_pub t ht x w hx hT
set_option maxHeartbeats 1600000 in
theorem impl_pubs (x : ByteArray) (w : World) (hx : x.size ≤ 1099511627000) (hT : Tab w) :
    Calls Tryd.prog 25 #[.string x] w fun e w' => e = .returned (.slice (some ⟨w.heap.size, 0, none⟩) 4 4) ∧ StrAt w' w.heap.size 0 (hPubs x) ∧ Below w.heap.size w w' := by
  obtain ⟨Z, HZ⟩ : ∃ Z : List Value, Hid (Z = List.replicate 4 (sv ⟨#[]⟩)) := ⟨_, rfl⟩
  have hz := zeroP.1
  rw [← HZ.out] at hz
  have HT : Hid (Tab w) := hT
  clear hT
  have HA0 : Hid (Au (w.alloc (.cells Z.toArray 55)) w.heap.size 55 (parts (hPub x) 4 0)) := by
    rw [parts_zero, ← HZ.out]; exact Au.new w 55 Z
  have hb0 : Below w.heap.size w (w.alloc (.cells Z.toArray 55)) := (Below.refl _ _).alloc (Nat.le_refl _) _
  go_enter Tryd.func25, Tryd.ntmps25
  go_wp2
  go_loopw [5] (fun cv wr => ∃ (k : Nat), cv = .int .i64 k ∧ k ≤ 4 ∧ Hid (Au wr w.heap.size 55 (parts (hPub x) 4 k)) ∧ Below w.heap.size w wr) (fun cv _ => 4 - (intOf cv).toNat)
  case atStart => exact ⟨0, rfl, by omega, HA0, hb0⟩
  case round =>
    clear HA0 hb0
    obtain ⟨k, rfl, hk, HR, hb⟩ := hrel
    by_cases hlt : k < 4
    · have hlt' : (k : Int) < 4 := by omega
      have kG := fun W hW => impl_pub k hlt x W hx hW
      obtain ⟨y, hy⟩ : ∃ y, y = hPub x k := ⟨_, rfl⟩
      rw [← hy] at kG
      have HY : Hid (y = hPub x k) := hy
      clear hy
      go_wp2_with fail
      refine (kG wr (HT.out.below hb HT.out.pos)).mono ?_
      rintro e w3 ⟨rfl, hb3⟩
      have hb03 := hb.trans (hb3.mono hb.size)
      have HR3 : Hid (Au w3 w.heap.size 55 (parts (hPub x) 4 k)) := HR.out.below hb3
      have hc : w3.cell? ⟨w.heap.size, k, none⟩ = some (sv ⟨#[]⟩) := HR3.out.cell (parts_behind _ 4 k hlt)
      have hf : w3.frozen? ⟨w.heap.size, k, none⟩ = false := HR3.out.frozen k
      have HR4 : Hid (Au (w3.setCell ⟨w.heap.size, k, none⟩ (.string y)) w.heap.size 55 (parts (hPub x) 4 (k + 1))) := by
        have := HR3.out.set k (sv (hPub x k))
        rw [parts_set _ 4 k hlt] at this
        rw [HY.out]; exact this
      have hb4 : Below w.heap.size w (w3.setCell ⟨w.heap.size, k, none⟩ (.string y)) := hb03.setCell (p := ⟨w.heap.size, k, none⟩) (Nat.le_refl _) _
      clear hb3 hb hb03
      go_wp2
      go_roundw
      case rel =>
        have R : ∃ (k' : Nat), Value.int .i64 ((k : Int) + 1) = .int .i64 k' ∧ k' ≤ 4 ∧ Hid (Au (w3.setCell ⟨w.heap.size, k, none⟩ (.string y)) w.heap.size 55 (parts (hPub x) 4 k')) ∧ Below w.heap.size w (w3.setCell ⟨w.heap.size, k, none⟩ (.string y)) :=
          ⟨k + 1, by simp, by omega, HR4, hb4⟩
        first | exact R | ((repeat apply Exists.intro); exact ⟨R, rfl⟩)
      case measure => simp [intOf]; omega
    · obtain rfl : k = 4 := by omega
      have HS : Hid (StrAt wr w.heap.size 0 (hPubs x)) := by
        have := HR.out
        rw [parts_full] at this
        exact au_str this
      go_wp2
      go_ret
      exact ⟨rfl, HS.out, hb⟩
theorem impl_hsRoot (x : ByteArray) (w : World) (hx : x.size ≤ 1099511627000) (hT : Tab w) :
    Calls Tryd.prog 12 #[.string x] w fun e w' => e = .returned (.string (hRoot x)) ∧ Below w.heap.size w w' := by
  have HT : Hid (Tab w) := hT
  clear hT
  go_enter Tryd.func12, Tryd.ntmps12
  go_wp2_with fail
  refine (impl_pubs x w hx HT.out).mono ?_
  rintro e w1 ⟨rfl, hA, hb1⟩
  have HA : Hid (StrAt w1 w.heap.size 0 (hPubs x)) := hA
  clear hA
  go_wp2_with fail
  refine (impl_treeRoot w.heap.size 0 4 (hPubs x) w1 (Nat.le_refl _) (by omega) HA.out (fun s hs => by rw [mem_hPubs x s hs]; omega) (HT.out.below hb1 HT.out.pos)).mono ?_
  rintro e w2 ⟨rfl, hb2⟩
  go_wp2
  go_ret
  exact ⟨rfl, hb1.trans (hb2.mono hb1.size)⟩
end Go.Proofs.YtppkjpfofgfiaaaDoor
