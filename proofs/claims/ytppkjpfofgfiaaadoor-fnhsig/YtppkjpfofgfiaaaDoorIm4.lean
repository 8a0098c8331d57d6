/- A row that the call owns, turned about by slices.Reverse; and what the program's leftTurns answers: a row of its own; old memory stays. -/
import Derived.Test.YtppkjpfofgfiaaaDoorIm3
import Derived.Test.YtppkjpfofgfiaaaDoorTnum
import Derived.Lib.OwnBridge
namespace Go.Proofs.YtppkjpfofgfiaaaDoor
open Go.RowKit
open Num
set_option linter.unusedVariables false
open Go.Lib Go.Sort in
theorem rev_any {α : Type} [Inhabited α] (enc : α → Value) (F : Nat) (e : TypeId)
    (hfull : ∀ (blk off cap : Nat) (zs : List α) (w : World), Holds enc w blk off zs.toArray → zs.length ≤ 9223372036854775807 → Calls Tryd.prog F #[.slice (some ⟨blk, off, none⟩) zs.length cap] w fun r w' => r = .returned (.tuple #[]) ∧ ∃ n, w' = putRow enc (Sort.ahead w n) blk off zs.reverse.toArray)
    (hnil : ∀ (a : Option Addr) (cap : Nat) (w : World), Calls Tryd.prog F #[.slice a 0 cap] w fun r w' => r = .returned (.tuple #[]) ∧ w' = w)
    (B : Nat) (v : Value) (l : List α) (w : World) (h : w.ownsRow B e 1 v l.length (l.map enc)) (hl : l.length ≤ 9223372036854775807) :
    Calls Tryd.prog F #[v] w fun r w' => r = .returned (.tuple #[]) ∧ w'.ownsRow B e 1 v l.length (l.reverse.map enc) ∧ (∀ B0 w0, Below B0 w0 w → B0 ≤ B → Below B0 w0 w') := by
  by_cases hv : v = .slice none 0 0
  · have h0 : l.length = 0 := by
      rcases h.2 with ⟨_, h0⟩ | ⟨g, cap, cur, e0, _⟩
      · exact h0
      · rw [hv] at e0; simp at e0
    have hln : l = [] := List.length_eq_zero_iff.1 h0
    subst hln hv
    exact (hnil none 0 w).mono fun r w' ⟨hr, hw⟩ => ⟨hr, hw ▸ h, fun B0 w0 hb _ => hw ▸ hb⟩
  · obtain ⟨g, cap, rfl, hB, hg, hn, hm, _, hH⟩ := holds_of_ownsRow h hv
    refine (hfull g 0 cap l w hH hl).mono fun r w' ⟨hr, n, hw⟩ => ⟨hr, ?_, fun B0 w0 hb hle => ?_⟩
    · have := ownsRow_putRow (q := n) (k := l.length) h (ys := l.reverse) (by simp) (Nat.le_refl _)
      rw [List.take_of_length_le (by simp)] at this
      rw [hw]; exact this
    · rw [hw]; exact below_putRow hb (Nat.le_trans hle hB)
def bv (x : Bool) : Value := .bool x
theorem rev_bools (B : Nat) (v : Value) (l : List Bool) (w : World) (h : w.ownsRow B 4 1 v l.length (l.map bv)) (hl : l.length ≤ 9223372036854775807) :
    Calls Tryd.prog 79 #[v] w fun r w' => r = .returned (.tuple #[]) ∧ w'.ownsRow B 4 1 v l.length (l.reverse.map bv) ∧ (∀ B0 w0, Below B0 w0 w → B0 ≤ B → Below B0 w0 w') :=
  rev_any bv 79 4 (fun blk off cap zs w => Tryd.slices_Reverse_f79 bv (fun _ => rfl) blk off cap zs w) (fun a cap w => Tryd.slices_Reverse_empty_f79 (α := Bool) a cap w) B v l w h hl
theorem rev_texts (B : Nat) (v : Value) (l : List ByteArray) (w : World) (h : w.ownsRow B 9 1 v l.length (l.map sv)) (hl : l.length ≤ 9223372036854775807) :
    Calls Tryd.prog 51 #[v] w fun r w' => r = .returned (.tuple #[]) ∧ w'.ownsRow B 9 1 v l.length (l.reverse.map sv) ∧ (∀ B0 w0, Below B0 w0 w → B0 ≤ B → Below B0 w0 w') :=
  rev_any sv 51 9 (fun blk off cap zs w => Tryd.slices_Reverse_f51 sv (fun _ => rfl) blk off cap zs w) (fun a cap w => Tryd.slices_Reverse_empty_f51 (α := ByteArray) a cap w) B v l w h hl
theorem info4f : ∃ i, Tryd.prog.info? 4 = some i ∧ i.zero = some (.bool false) ∧ i.size = 1 ∧ i.bytes = 1 :=
  ⟨_, rfl, rfl, rfl, rfl⟩
theorem bv_one (l : List Bool) : ∀ u ∈ l.map bv, u.oneCell' = true := by
  intro v hv
  obtain ⟨c, _, rfl⟩ := List.mem_map.1 hv
  rfl
theorem one_bool (W : World) (x : Bool) : ∀ j u, ([x].map bv)[j]? = some u → (W.alloc (.cells #[.bool x] 4)).cell? ((⟨W.heap.size, 0, none⟩ : Addr).add j) = some u := by
  intro j u hj
  rw [add_at, cell_of_row _ _ j #[.bool x] 4 (0, 0) (heap_alloc_new W _)]
  simpa [bv] using hj
theorem own_snb {w : World} {B n : Nat} {v : Value} {ss : List Bool} {x : Bool} (h : w.ownsRow B 4 1 v n (ss.map bv ++ [x].map bv)) : w.ownsRow B 4 1 v n ((ss ++ [x]).map bv) := by
  simpa using h
theorem own_nil (w : World) (B : Nat) (e : TypeId) : w.ownsRow B e 1 (.slice none 0 0) 0 [] := ⟨rfl, .inl ⟨rfl, rfl⟩⟩
theorem own_as {w : World} {B : Nat} {e : TypeId} {v : Value} {n : Nat} {xs : List Value} (h : w.ownsRow B e 1 v n xs) : ∃ a c, v = .slice a n c ∧ n ≤ c := by
  rcases h.2 with ⟨e0, h0⟩ | ⟨g, cap, cur, e0, hb, hg, hn, _⟩
  · exact ⟨none, 0, by rw [e0, h0], by omega⟩
  · exact ⟨_, _, e0, hn⟩
/-- How a walk down stands: what is left below, and the turns that were taken, the first first. -/
def Down (i n : Nat) (i' n' : Nat) (acc : List Bool) : Prop := turns i n = turns i' n' ++ acc.reverse
theorem Down.low {i n i' n' : Nat} {acc : List Bool} (h : Down i n i' n' acc) (h2 : 2 ≤ n') (hi : i' < spl n') : Down i n i' (spl n') (acc ++ [true]) := by
  unfold Down at *
  rw [h, turns_low i' n' h2 hi]; simp
theorem Down.high {i n i' n' : Nat} {acc : List Bool} (h : Down i n i' n' acc) (h2 : 2 ≤ n') (hi : ¬ i' < spl n') : Down i n (i' - spl n') (n' - spl n') (acc ++ [false]) := by
  unfold Down at *
  rw [h, turns_high i' n' h2 hi]; simp
set_option maxHeartbeats 1600000 in
theorem impl_turns (i n : Nat) (hi : i < n) (hn : n ≤ 40) (w : World) :
    Calls Tryd.prog 71 #[.int .i64 (i : Int), .int .i64 (n : Int)] w fun e w' => ∃ v, e = .returned v ∧ w'.ownsRow w.heap.size 4 1 v (turns i n).length ((turns i n).map bv) ∧ Below w.heap.size w w' := by
  obtain ⟨i0, hif, hz0, hz1, hz2⟩ := info4f
  go_enter Tryd.func71, Tryd.ntmps71
  go_wp2
  go_loopw [0, 1, 5] (fun iv nv tv wr => ∃ (i' n' : Nat) (acc : List Bool), iv = .int .i64 i' ∧ nv = .int .i64 n' ∧ i' < n' ∧ n' ≤ 40 ∧ acc.length + n' ≤ 41 ∧ wr.ownsRow w.heap.size 4 1 tv acc.length (acc.map bv) ∧ Hid (Down i n i' n' acc) ∧ Below w.heap.size w wr) (fun _ nv _ _ => (intOf nv).toNat)
  case atStart => exact ⟨i, n, [], rfl, rfl, hi, hn, by simp; omega, own_nil _ _ _, by show turns i n = _; simp, Below.refl _ _⟩
  case round =>
    obtain ⟨i', n', acc, rfl, rfl, hi', hn', hacc, hown, HD, hb⟩ := hrel
    by_cases h1 : n' = 1
    · subst h1
      have HT : Hid (turns i n = acc.reverse) := by have := HD.out; unfold Down at this; rw [turns_one, List.nil_append] at this; exact this
      go_wp2_with fail
      refine (rev_bools w.heap.size u5 acc wr hown (by omega)).mono ?_
      rintro e w2 ⟨rfl, hown2, hb2⟩
      have hbe := hb2 _ _ hb (Nat.le_refl _)
      have HO : Hid (w2.ownsRow w.heap.size 4 1 u5 acc.length (acc.reverse.map bv)) := hown2
      clear hown hown2 hb2 hb
      go_wp2
      go_ret
      exact ⟨u5, rfl, by rw [HT.out, List.length_reverse]; exact HO.out, hbe⟩
    · have h2 : 2 ≤ n' := by omega
      have hs := spl_lt h2
      obtain ⟨k, hk⟩ : ∃ k, k = spl n' := ⟨_, rfl⟩
      rw [← hk] at hs
      obtain ⟨hk1, hk2⟩ := hs
      have HK : Hid (k = spl n') := hk
      have hgt : (1 : Int) < (n' : Int) := by omega
      have hsr : w.heap.size ≤ wr.heap.size := hb.size
      go_wp2_with fail
      refine (impl_split n' h2 (by omega) wr).mono ?_
      rintro e w1 ⟨rfl, rfl⟩
      rw [← HK.out]
      by_cases hik : i' < k
      · have hik' : (i' : Int) < (k : Int) := by omega
        have HDN : Hid (Down i n i' k (acc ++ [true])) := by show Down _ _ _ _ _; rw [hk]; exact HD.out.low h2 (by omega)
        have HCC : Hid (_) := one_bool w1 true
        clear hk
        go_wp2_with (at_builtin; refine wpList_append_own _ rfl _ _ 78 rfl w.heap.size 4 i0 (.bool false) 1 1 Tryd.underlying78 hif hz0 hz1 hz2 rfl (by decide) _ _ _ rfl (hown.alloc _) ⟨w1.heap.size, 0, none⟩ 1 1 ([true].map bv) rfl rfl HCC (bv_one _) (by unfold maxLen; omega) (by omega) (by simp; omega) ?_)
        intro v' w4 hown' hgrow hnn
        replace hown' := own_snb hown'
        have hb4 : Below w.heap.size w w4 := (hb.alloc hsr _).grown hgrow (by simp; omega) (fun j hj => (hown.lt j hj).1)
        have HO : Hid (w4.ownsRow w.heap.size 4 1 v' (acc ++ [true]).length ((acc ++ [true]).map bv)) := by
          show World.ownsRow _ _ _ _ _ _ _
          rw [List.length_append]; exact hown'
        clear hgrow hown' hnn HCC hown hb
        go_wp2
        go_roundw
        case rel =>
          have R : ∃ (i'' n'' : Nat) (acc' : List Bool), Value.int .i64 (i' : Int) = .int .i64 i'' ∧ Value.int .i64 (k : Int) = .int .i64 n'' ∧ i'' < n'' ∧ n'' ≤ 40 ∧ acc'.length + n'' ≤ 41 ∧ w4.ownsRow w.heap.size 4 1 v' acc'.length (acc'.map bv) ∧ Hid (Down i n i'' n'' acc') ∧ Below w.heap.size w w4 :=
            ⟨i', k, acc ++ [true], rfl, rfl, hik, by omega, by simp; omega, HO.out, HDN, hb4⟩
          first | exact R | ((repeat apply Exists.intro); exact ⟨R, rfl⟩)
        case measure => simp [intOf]; omega
      · have hik' : ¬ (i' : Int) < (k : Int) := by omega
        obtain ⟨d, hd⟩ : ∃ d, d = i' - k := ⟨_, rfl⟩
        obtain ⟨m, hm⟩ : ∃ m, m = n' - k := ⟨_, rfl⟩
        have e1 : (i' : Int) - (k : Int) = (d : Int) := by omega
        have e2 : (n' : Int) - (k : Int) = (m : Int) := by omega
        have HDN : Hid (Down i n d m (acc ++ [false])) := by show Down _ _ _ _ _; rw [hd, hm, hk]; exact HD.out.high h2 (by omega)
        have HCC : Hid (_) := one_bool w1 false
        have hdm : d < m := by omega
        have hm40 : m ≤ 40 := by omega
        have hmn : m < n' := by omega
        clear hk hd hm
        go_wp2_with (at_builtin; refine wpList_append_own _ rfl _ _ 78 rfl w.heap.size 4 i0 (.bool false) 1 1 Tryd.underlying78 hif hz0 hz1 hz2 rfl (by decide) _ _ _ rfl (hown.alloc _) ⟨w1.heap.size, 0, none⟩ 1 1 ([false].map bv) rfl rfl HCC (bv_one _) (by unfold maxLen; omega) (by omega) (by simp; omega) ?_)
        intro v' w4 hown' hgrow hnn
        replace hown' := own_snb hown'
        have hb4 : Below w.heap.size w w4 := (hb.alloc hsr _).grown hgrow (by simp; omega) (fun j hj => (hown.lt j hj).1)
        have HO : Hid (w4.ownsRow w.heap.size 4 1 v' (acc ++ [false]).length ((acc ++ [false]).map bv)) := by
          show World.ownsRow _ _ _ _ _ _ _
          rw [List.length_append]; exact hown'
        clear hgrow hown' hnn HCC hown hb
        go_wp2
        go_roundw
        case rel =>
          have R : ∃ (i'' n'' : Nat) (acc' : List Bool), Value.int .i64 (d : Int) = .int .i64 i'' ∧ Value.int .i64 (m : Int) = .int .i64 n'' ∧ i'' < n'' ∧ n'' ≤ 40 ∧ acc'.length + n'' ≤ 41 ∧ w4.ownsRow w.heap.size 4 1 v' acc'.length (acc'.map bv) ∧ Hid (Down i n i'' n'' acc') ∧ Below w.heap.size w w4 :=
            ⟨d, m, acc ++ [false], rfl, rfl, by omega, by omega, by simp; omega, HO.out, HDN, hb4⟩
          first | exact R | ((repeat apply Exists.intro); exact ⟨R, rfl⟩)
        case measure => simp [intOf]; omega
end Go.Proofs.YtppkjpfofgfiaaaDoor
