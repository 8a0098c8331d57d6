/- What spec.HsPub, l5Pubs and HsRoot answer; old memory stays. Conditions: seeds of at most 2 to the 40 bytes, nearly. -/
import Derived.Test.YtppkjpfofgfiaaaDoorHs3
import Derived.Test.YtppkjpfofgfiaaaDoorIm6
namespace Go.Proofs.YtppkjpfofgfiaaaDoor
open Go.RowKit
open Num
set_option linter.unusedVariables false
/-- The first k of a row of texts, put one behind the other. -/
def catK (f : Nat → ByteArray) (k : Nat) : ByteArray := cat ((List.range k).map f)
theorem catK_zero (f : Nat → ByteArray) : catK f 0 = ⟨#[]⟩ := rfl
theorem catK_succ (f : Nat → ByteArray) (k : Nat) : catK f (k + 1) = catK f k ++ f k := by
  unfold catK; rw [List.range_succ, List.map_append]; exact cat_snoc _ _
theorem size_catK (f : Nat → ByteArray) (h : ∀ k, (f k).size = 8) (k : Nat) : (catK f k).size = 8 * k := by
  unfold catK
  rw [size_cat 8 _ (by intro x hx; obtain ⟨c, _, rfl⟩ := List.mem_map.1 hx; exact h c)]
  simp
theorem size_endOf (x : ByteArray) (l c : Nat) : (endOf x l c).size = 8 := size_hUp _ _ _ (size_shortB _) _
theorem size_partOf (x m : ByteArray) (l c : Nat) : (partOf x m l c).size = 8 := size_hUp _ _ _ (size_shortB _) _
theorem leafIs_of (l : Nat) (h : l < 4) : leafIs (l : Int) = true := by simp [leafIs]; omega
set_option maxHeartbeats 800000 in
theorem spec_pub (l : Nat) (hl : l < 4) (x : ByteArray) (w : World) (hx : x.size ≤ 1099511627000) :
    Calls Tryd.prog 21 #[.string x, .int .i64 (l : Int)] w fun e w' => e = .returned (.string (hPub x l)) ∧ Below w.heap.size w w' := by
  have kI := fun W => spec_leafIs (l : Int) (by omega) (by omega) W
  rw [leafIs_of l hl] at kI
  go_enter Tryd.func21, Tryd.ntmps21
  go_wp2_with fail
  refine (kI w).mono ?_
  rintro e w1 ⟨rfl, rfl⟩
  go_wp2
  go_loopw [5, 6] (fun sv cv wr => ∃ (k : Nat) (s : ByteArray), cv = .int .i64 k ∧ sv = .string s ∧ k ≤ 11 ∧ s.size ≤ 88 ∧ Hid (s = catK (endOf x l) k) ∧ Below w1.heap.size w1 wr) (fun _ cv _ => 11 - (intOf cv).toNat)
  case atStart => exact ⟨0, ⟨#[]⟩, rfl, rfl, by omega, by decide, rfl, Below.refl _ _⟩
  case round =>
    obtain ⟨k, s, rfl, rfl, hk, hs, HS, hb⟩ := hrel
    by_cases hlt : k < 11
    · have hlt' : (k : Int) < 11 := by omega
      have HN : Hid (s ++ endOf x l k = catK (endOf x l) (k + 1)) := by show _ = _; rw [catK_succ, HS.out]
      have h8 : (s ++ endOf x l k).size ≤ 88 := by
        rw [HN.out, size_catK _ (size_endOf x l)]; omega
      have hbig : ¬ 9223372036854775807 < s.size + (endOf x l k).size := by rw [size_endOf]; omega
      have kG := fun W => spec_go k 0 3 hlt (by omega) (by omega) (hSec x l k) W (size_shortB _)
      have kG' : ∀ W, Calls Tryd.prog 37 #[.int .i64 (k : Int), .int .i64 1, .int .i64 3, .string (hSec x l k)] W fun e w' => e = .returned (.string (endOf x l k)) ∧ Below W.heap.size W w' := kG
      clear kG
      generalize endOf x l k = y at *
      go_wp2_with fail
      refine (spec_secret l k hl hlt x wr hx).mono ?_
      rintro e w2 ⟨rfl, hb2⟩
      go_wp2_with fail
      refine (kG' w2).mono ?_
      rintro e w3 ⟨rfl, hb3⟩
      have hb23 := hb.trans (hb2.mono hb.size)
      have hb33 := hb23.trans (hb3.mono hb23.size)
      go_wp2
      go_round
      case rel => exact ⟨k + 1, _, by go_num, rfl, by omega, h8, HN, hb33⟩
      case measure => simp [intOf]; omega
    · have hlt' : ¬ (k : Int) < 11 := by omega
      have HN : Hid (shortB s = hPub x l) := by
        show _ = _
        rw [HS.out, show k = 11 from by omega]; rfl
      go_wp2_with fail
      refine (spec_short s wr (by omega)).mono ?_
      rintro e w2 ⟨rfl, hb2⟩
      go_wp2
      go_ret
      exact ⟨by rw [← HN.out]; rfl, hb.trans (hb2.mono hb.size)⟩
theorem pubI_of (l : Nat) (hl : l < 4) (x : ByteArray) : pubI x l = hPub x l := by
  unfold pubI; rw [if_pos (by omega), Int.toNat_natCast]
theorem pubI_no (l : Int) (h : leafIs l = false) (x : ByteArray) : pubI x l = ⟨#[]⟩ := by
  simp [leafIs] at h
  unfold pubI; rw [if_neg (by omega)]
theorem spec_pubI (l : Int) (hl0 : -9223372036854775808 ≤ l) (hl1 : l ≤ 9223372036854775807) (x : ByteArray) (w : World) (hx : x.size ≤ 1099511627000) :
    Calls Tryd.prog 21 #[.string x, .int .i64 l] w fun e w' => e = .returned (.string (pubI x l)) ∧ Below w.heap.size w w' := by
  have kI := fun W => spec_leafIs l hl0 hl1 W
  rcases hI : leafIs l with _ | _
  · have HE : Hid (pubI x l = ⟨#[]⟩) := pubI_no l hI x
    rw [hI] at kI
    clear hI
    go_enter Tryd.func21, Tryd.ntmps21
    go_wp2_with fail
    refine (kI w).mono ?_
    rintro e w1 ⟨rfl, rfl⟩
    go_wp2
    go_ret
    exact ⟨by rw [HE.out]; rfl, Below.refl _ _⟩
  · obtain ⟨t, rfl, ht⟩ := leaf_nat hI
    rw [pubI_of t ht]
    exact spec_pub t ht x w hx
theorem own_cap {w : World} {B g cap : Nat} {l : List ByteArray} (h : OwnS w B g cap l) : l.length ≤ cap ∧ cap ≤ 9223372036854775807 := by
  rcases h.2 with ⟨h', _⟩ | ⟨g', cap', cur, h', _, _, h1, h2, _⟩
  · simp at h'
  · simp only [Value.slice.injEq, Option.some.injEq, Addr.mk.injEq, and_true, true_and] at h'
    obtain ⟨_, rfl⟩ := h'
    unfold maxLen at h2
    exact ⟨h1, by omega⟩
def pubK (x : ByteArray) (k : Nat) : List ByteArray := (List.range k).map (hPub x)
theorem pubK_succ (x : ByteArray) (k : Nat) : pubK x (k + 1) = pubK x k ++ [hPub x k] := by
  unfold pubK; rw [List.range_succ, List.map_append]; rfl
theorem own_pub {w : World} {B n k : Nat} {v : Value} {x y : ByteArray} (h : w.ownsRow B 9 1 v n ((pubK x k).map sv ++ [y].map sv)) (hy : y = hPub x k) : w.ownsRow B 9 1 v n ((pubK x (k + 1)).map sv) := by
  rw [pubK_succ, List.map_append]; subst hy; exact h
set_option maxHeartbeats 800000 in
theorem spec_pubs (x : ByteArray) (w : World) (hx : x.size ≤ 1099511627000) :
    Calls Tryd.prog 33 #[.string x] w fun e w' => ∃ g c, e = .returned (.slice (some ⟨g, 0, none⟩) 4 c) ∧ OwnS w' w.heap.size g c (hPubs x) ∧ Below w.heap.size w w' := by
  obtain ⟨i0, hi, hz0, hz1, hz2⟩ := info9f
  have HE : Hid ((w.alloc (.cells #[] 9)).ownsRow w.heap.size 9 1 (.slice (some ⟨w.heap.size, 0, none⟩) 0 0) 0 ((pubK x 0).map sv)) := World.ownsRow_made w #[] 0 (Nat.le_refl _) (by decide) rfl
  go_enter Tryd.func33, Tryd.ntmps33
  go_wp2
  go_loopw [3, 4] (fun ov kv wr => ∃ (k : Nat), k ≤ 4 ∧ kv = .int .i64 k ∧ wr.ownsRow w.heap.size 9 1 ov k ((pubK x k).map sv) ∧ Below w.heap.size w wr) (fun _ kv _ => 4 - (intOf kv).toNat)
  case atStart => exact ⟨0, by omega, rfl, HE.out, (Below.refl _ _).alloc (Nat.le_refl _) _⟩
  case round =>
    clear HE
    obtain ⟨k, hk, rfl, hown, hb⟩ := hrel
    have hsz := hb.size
    by_cases hlt : k < 4
    · have hlt' : (k : Int) < 4 := by omega
      have kP := fun W => spec_pub k hlt x W hx
      obtain ⟨y, hy⟩ : ∃ y, y = hPub x k := ⟨_, rfl⟩
      rw [← hy] at kP
      have HY : Hid (y = hPub x k) := hy
      clear hy
      go_wp2_with fail
      refine (kP wr).mono ?_
      rintro e w2 ⟨rfl, hb2⟩
      have hown2 : w2.ownsRow w.heap.size 9 1 u3 k ((pubK x k).map sv) := own_keep hown hb2
      have hlt9 := hown2.lt
      have HO : Hid (w2.ownsRow w.heap.size 9 1 u3 k ((pubK x k).map sv)) := hown2
      have hb22 := hb.trans (hb2.mono hb.size)
      have hsz2 := hb22.size
      clear hown hown2 hb hb2
      go_wp2_with (at_builtin; refine wpList_append_own _ rfl _ _ 37 rfl w.heap.size 9 i0 (.string ⟨#[]⟩) 1 16 Tryd.underlying37 hi hz0 hz1 hz2 rfl (by decide) _ _ _ rfl (HO.out.alloc _) ⟨w2.heap.size, 0, none⟩ 1 1 ([y].map sv) rfl rfl (one_str w2 y) (sv_one _) (by unfold maxLen; omega) (by omega) (by simp; omega) ?_)
      intro v' w4 hown' hgrow hnn
      have HO4 : Hid (w4.ownsRow w.heap.size 9 1 v' (k + 1) ((pubK x (k + 1)).map sv)) := own_pub hown' HY.out
      have hb4 : Below w.heap.size w w4 := (hb22.alloc hsz2 _).grown hgrow (by simp; omega) (fun j hj => (hlt9 j hj).1)
      clear hgrow hown' hnn hb22 hlt9
      go_wp2
      go_roundw
      case rel =>
        have R : ∃ (k' : Nat), k' ≤ 4 ∧ Value.int .i64 ((k : Int) + 1) = .int .i64 k' ∧ w4.ownsRow w.heap.size 9 1 v' k' ((pubK x k').map sv) ∧ Below w.heap.size w w4 :=
          ⟨k + 1, by omega, by simp, HO4.out, hb4⟩
        first | exact R | ((repeat apply Exists.intro); exact ⟨R, rfl⟩)
      case measure => simp [intOf]; omega
    · have hlt' : ¬ (k : Int) < 4 := by omega
      obtain rfl : k = 4 := by omega
      have HO : Hid (wr.ownsRow w.heap.size 9 1 u3 4 ((hPubs x).map sv)) := hown
      clear hown
      go_wp2
      go_ret
      obtain ⟨g, c, hg⟩ := row_form HO.out
      subst hg
      exact ⟨g, c, rfl, HO.out, hb⟩
theorem spec_hsRoot (x : ByteArray) (w : World) (hx : x.size ≤ 1099511627000) :
    Calls Tryd.prog 14 #[.string x] w fun e w' => e = .returned (.string (hRoot x)) ∧ Below w.heap.size w w' := by
  go_enter Tryd.func14, Tryd.ntmps14
  go_wp2_with fail
  refine (spec_pubs x w hx).mono ?_
  rintro e w1 ⟨g, c, rfl, hown, hb1⟩
  have HA : Hid (StrAt w1 g 0 (hPubs x)) := own_str hown
  have HC : Hid (4 ≤ c ∧ c ≤ 9223372036854775807) := own_cap (l := hPubs x) hown
  clear hown
  go_wp2_with fail
  refine (spec_treeRoot g 0 c (hPubs x) w1 HC.out.1 HC.out.2 HA.out (fun s hs => by rw [mem_hPubs x s hs]; omega)).mono ?_
  rintro e w2 ⟨rfl, hb2⟩
  go_wp2
  go_ret
  exact ⟨rfl, hb1.trans (hb2.mono hb1.size)⟩
end Go.Proofs.YtppkjpfofgfiaaaDoor
