/- Rows of texts that a call owns, and what the laws' helpers eqStringS, sameTexts, markText, markStringS and heldStringS answer of them. Conditions: rows of like texts for the first two; rows whose cells may be written; marks of at most 1099511627776. -/
import Derived.Test.YtdpjlfgfacjfeaaDoorRw
import Derived.Deep.QuietTactic
import Derived.BigQuiet
import Derived.Deep.MidRow
import Derived.Deep.Heap
namespace Go.Proofs.YtdpjlfgfacjfeaaDoor
open Go.RowKit
open Num
set_option linter.unusedVariables false
def StrAt (w : World) (b o : Nat) (ss : List ByteArray) : Prop := ∀ j (hj : j < ss.length), w.cell? ⟨b, o + j, none⟩ = some (.string ss[j])
theorem StrAt.below {w w' : World} {b o : Nat} {ss : List ByteArray} (h : StrAt w b o ss) (hb : Below w.heap.size w w') : StrAt w' b o ss := fun j hj => by
  have hc := h j hj
  rw [hb.cell (p := ⟨b, o + j, none⟩) (World.block_lt_of_cell? w _ hc)]; exact hc
theorem StrAt.win {w : World} {b o : Nat} {ss : List ByteArray} (h : StrAt w b o ss) (d n : Nat) : StrAt w b (o + d) ((ss.drop d).take n) := fun j hj => by
  have hj' : d + j < ss.length := by rw [List.length_take, List.length_drop] at hj; omega
  rw [Nat.add_assoc, h (d + j) hj']
  simp
def StrO (w : World) (a : Option Addr) (ss : List ByteArray) : Prop := ss.length = 0 ∨ ∃ b o, a = some ⟨b, o, none⟩ ∧ StrAt w b o ss
theorem StrO.below {w w' : World} {a : Option Addr} {ss : List ByteArray} (h : StrO w a ss) (hb : Below w.heap.size w w') : StrO w' a ss := by
  rcases h with h | ⟨b, o, h1, h2⟩
  · exact .inl h
  · exact .inr ⟨b, o, h1, h2.below hb⟩
theorem StrAt.take {w : World} {b o : Nat} {ss : List ByteArray} (h : StrAt w b o ss) (n : Nat) : StrAt w b o (ss.take n) := by
  have := h.win 0 n
  rw [Nat.add_zero, List.drop_zero] at this; exact this
theorem info9f : ∃ i, Tryd.prog.info? 9 = some i ∧ i.zero = some (.string ⟨#[]⟩) ∧ i.size = 1 ∧ i.bytes = 16 :=
  info_parts (by kernel_rfl)
def sv (x : ByteArray) : Value := .string x
theorem sv_one (l : List ByteArray) : ∀ u ∈ l.map sv, u.oneCell' = true := by
  intro v hv
  obtain ⟨c, _, rfl⟩ := List.mem_map.1 hv
  rfl
/-- A row of texts that the call owns. -/
abbrev OwnT (w : World) (B : Nat) (v : Value) (l : List ByteArray) : Prop := w.ownsRow B 9 1 v l.length (l.map sv)
theorem one_str (W : World) (x : ByteArray) : ∀ j u, ([x].map sv)[j]? = some u → (W.alloc (.cells #[.string x] 9)).cell? ((⟨W.heap.size, 0, none⟩ : Addr).add j) = some u := by
  intro j u hj
  rw [add_at, cell_of_row _ _ j #[.string x] 9 (0, 0) (heap_alloc_new W _)]
  simpa [sv] using hj
theorem own_snt {w : World} {B : Nat} {v : Value} {l : List ByteArray} {x : ByteArray} (h : w.ownsRow B 9 1 v (l.length + 1) (l.map sv ++ [x].map sv)) : OwnT w B v (l ++ [x]) := by
  unfold OwnT
  rw [List.map_append, List.length_append]; exact h
theorem StrO.get {w : World} {a : Option Addr} {ss : List ByteArray} (h : StrO w a ss) {j : Nat} (hj : j < ss.length) : ∃ b o, a = some ⟨b, o, none⟩ ∧ w.cell? ⟨b, o + j, none⟩ = some (.string ss[j]) := by
  rcases h with h | ⟨b, o, h1, h2⟩
  · omega
  · exact ⟨b, o, h1, h2 j hj⟩
set_option maxHeartbeats 800000 in
set_option maxRecDepth 100000 in
theorem eq_same (a a2 : Option Addr) (cap cap2 : Nat) (ss : List ByteArray) (w : World) (hA : StrO w a ss) (hA2 : StrO w a2 ss) (hm : ss.length ≤ 140737488355328) :
    Calls Tryd.prog 17 #[.slice a ss.length cap, .slice a2 ss.length cap2] w fun e w' => e = .returned (.bool true) ∧ ∃ q, w' = w.drewN q := by
  have HA : Hid (StrO w a ss) := hA
  have HA2 : Hid (StrO w a2 ss) := hA2
  clear hA hA2
  have hnn : ((ss.length : Int) != (ss.length : Int)) = false := by simp
  go_enter Tryd.func17, Tryd.ntmps17
  go_wp2
  go_loopw [5] (fun i wr => ∃ k q : Nat, k ≤ ss.length ∧ i = .int .i64 k ∧ wr = w.drewN q) (fun i _ => ss.length - (intOf i).toNat)
  case atStart => exact ⟨0, 0, by omega, rfl, rfl⟩
  case round =>
    obtain ⟨k, q, hk, rfl, rfl⟩ := hrel
    by_cases hlt : k < ss.length
    · obtain ⟨b, o, rfl, hc⟩ := HA.out.get hlt
      obtain ⟨b2, o2, rfl, hc2⟩ := HA2.out.get hlt
      generalize ss[k] = x at *
      have hxx : (x.toList != x.toList) = false := by simp
      have hlt' : (k : Int) < (ss.length : Int) := by omega
      go_wp2
      go_quiet (fail)
      go_wp2
      go_roundw
      case rel => exact ⟨k + 1, q + nq, by omega, by go_num, rfl⟩
      case measure => simp [intOf]; omega
    · obtain rfl : k = ss.length := by omega
      go_wp2
      go_ret
      exact ⟨rfl, q, rfl⟩
set_option maxHeartbeats 800000 in
set_option maxRecDepth 100000 in
theorem eq_texts (a a2 : Option Addr) (cap cap2 : Nat) (ss : List ByteArray) (w : World) (hA : StrO w a ss) (hA2 : StrO w a2 ss) (hm : ss.length ≤ 140737488355328) :
    Calls Tryd.prog 11 #[.slice a ss.length cap, .slice a2 ss.length cap2] w fun e w' => e = .returned (.bool true) ∧ ∃ q, w' = w.drewN q := by
  have HA : Hid (StrO w a ss) := hA
  have HA2 : Hid (StrO w a2 ss) := hA2
  clear hA hA2
  have hnn : ((ss.length : Int) != (ss.length : Int)) = false := by simp
  go_enter Tryd.func11, Tryd.ntmps11
  go_wp2
  go_loopw [5] (fun i wr => ∃ k q : Nat, k ≤ ss.length ∧ i = .int .i64 k ∧ wr = w.drewN q) (fun i _ => ss.length - (intOf i).toNat)
  case atStart => exact ⟨0, 0, by omega, rfl, rfl⟩
  case round =>
    obtain ⟨k, q, hk, rfl, rfl⟩ := hrel
    by_cases hlt : k < ss.length
    · obtain ⟨b, o, rfl, hc⟩ := HA.out.get hlt
      obtain ⟨b2, o2, rfl, hc2⟩ := HA2.out.get hlt
      generalize ss[k] = x at *
      have hxx : (x.toList != x.toList) = false := by simp
      have hlt' : (k : Int) < (ss.length : Int) := by omega
      go_wp2
      go_quiet (fail)
      go_wp2
      go_roundw
      case rel => exact ⟨k + 1, q + nq, by omega, by go_num, rfl⟩
      case measure => simp [intOf]; omega
    · obtain rfl : k = ss.length := by omega
      go_wp2
      go_ret
      exact ⟨rfl, q, rfl⟩
def mdF : Nat → Nat → ByteArray → ByteArray
  | 0, _, o => o
  | f + 1, k, o => if k = 0 then o else mdF f (k / 10) (⟨#[UInt8.ofNat (48 + k % 10)]⟩ ++ o)
/-- The mark number k. -/
def mtxt (k : Nat) : ByteArray := ⟨#[109]⟩ ++ mdF k k ⟨#[]⟩
theorem size_sing (x : UInt8) : (⟨#[x]⟩ : ByteArray).size = 1 := rfl
set_option maxHeartbeats 800000 in
set_option maxRecDepth 100000 in
theorem mtext_any (k : Nat) (hk : 1 ≤ k) (hm : k ≤ 1099511627776) (w : World) :
    Calls Tryd.prog 32 #[.int .i64 (k : Int)] w fun e w' => e = .returned (.string (mtxt k)) ∧ Below w.heap.size w w' := by
  have hk0 : ¬ (k : Int) ≤ 0 := by omega
  go_enter Tryd.func32, Tryd.ntmps32
  go_wp2
  go_loopw [0, 3] (fun kk out wr => ∃ (m f : Nat) (x : ByteArray), kk = .int .i64 m ∧ out = .string x ∧ m ≤ f ∧ x.size + m ≤ k ∧ Hid (mdF k k ⟨#[]⟩ = mdF f m x) ∧ Below w.heap.size w wr) (fun kk _ _ => (intOf kk).toNat)
  case atStart => exact ⟨k, k, ⟨#[]⟩, rfl, rfl, Nat.le_refl _, by show 0 + k ≤ k; omega, rfl, Below.refl _ _⟩
  case round =>
    obtain ⟨m, f, x, rfl, rfl, hmf, hxm, HM, hb⟩ := hrel
    by_cases hpos : 0 < m
    · obtain ⟨f', rfl⟩ : ∃ f', f = f' + 1 := ⟨f - 1, by omega⟩
      have hp' : (0 : Int) < (m : Int) := by omega
      have hr : (m : Int).tmod 10 = ((m % 10 : Nat) : Int) := by rw [Int.tmod_eq_emod_of_nonneg (by omega)]; omega
      have hq : (m : Int).tdiv 10 = ((m / 10 : Nat) : Int) := by rw [Int.tdiv_eq_ediv_of_nonneg (by omega)]; omega
      obtain ⟨r, hrr⟩ : ∃ r, m % 10 = r := ⟨_, rfl⟩
      obtain ⟨d, hd⟩ : ∃ d, m / 10 = d := ⟨_, rfl⟩
      have HS : Hid (mdF (f' + 1) m x = mdF f' d (⟨#[UInt8.ofNat (48 + r)]⟩ ++ x)) := by
        show _ = _
        conv => lhs; unfold mdF
        rw [if_neg (by omega), hrr, hd]
      rw [hrr] at hr
      rw [hd] at hq
      have hr10 : r < 10 := by omega
      have hdm : d < m := by omega
      have hcv := run_str_one (P := Tryd.prog) wr 22 9 5 Tryd.underlying22 Tryd.underlying5 Tryd.underlying9 (48 + (r : Int)) (by omega) (by omega)
      rw [show (48 + (r : Int)).toNat = 48 + r from by omega] at hcv
      clear hrr hd
      have hsz : wr.heap.size = wr.heap.size := rfl
      have hb2 := hb.alloc hb.size (.cells #[.int .u8 (48 + (r : Int))] 5)
      generalize hB : UInt8.ofNat (48 + r) = B at *
      have hs1 : (⟨#[B]⟩ : ByteArray).size = 1 := rfl
      clear hB
      go_wp2
      go_roundw
      case rel =>
        refine ⟨d, f', ⟨#[B]⟩ ++ x, rfl, rfl, by omega, ?_, ?_, hb2⟩
        · rw [ByteArray.size_append, hs1]; omega
        · rw [← HS.out]; exact HM
      case measure => simp [intOf]; omega
    · obtain rfl : m = 0 := by omega
      have HF : Hid (mtxt k = ⟨#[109]⟩ ++ x) := by
        show _ = _
        unfold mtxt
        rw [HM.out]
        cases f <;> rfl
      go_wp2
      go_ret
      exact ⟨by rw [HF.out]; rfl, hb⟩
/-- The marks from k on. -/
def marks (k n : Nat) : List ByteArray := (List.range n).map (fun j => mtxt (k + j))
theorem length_marks (k n : Nat) : (marks k n).length = n := by simp [marks]
theorem marks_at (k n j : Nat) (h : j < (marks k n).length) : (marks k n)[j] = mtxt (k + j) := by simp [marks]
theorem gr_refl (w : World) (r : Option Nat) : w.grownBy w r := ⟨rfl, rfl, rfl, Nat.le_refl _, fun _ _ _ => rfl⟩
theorem gr_trans {a b c : World} {r : Option Nat} (h : a.grownBy b r) (k : b.grownBy c r) : a.grownBy c r :=
  ⟨k.os.trans h.os, k.tape.trans h.tape, k.output.trans h.output, Nat.le_trans h.size k.size, fun j hj hr => (k.block j (Nat.lt_of_lt_of_le hj h.size) hr).trans (h.block j hj hr)⟩
theorem gr_below {w w' : World} {r : Option Nat} (h : Below w.heap.size w w') : w.grownBy w' r := ⟨h.os, h.tape, h.output, h.size, fun k hk _ => h.block k hk⟩
theorem gr_set (w : World) (g j : Nat) (u : Value) : w.grownBy (w.setCell ⟨g, j, none⟩ u) (some g) :=
  ⟨rfl, rfl, rfl, by rw [Deep.nblk_setCell]; exact Nat.le_refl _, fun k _ hr => Deep.blk_setCell_other w ⟨g, j, none⟩ u k (fun e => hr (by rw [e]))⟩
theorem there_below {w w' : World} {b o n : Nat} (h : w.there b o n) (hb : Below w.heap.size w w') : w'.there b o n := fun j hj => by
  obtain ⟨h1, h2⟩ := h j hj
  obtain ⟨u, hu⟩ := Option.isSome_iff_exists.1 h1
  have hlt := World.block_lt_of_cell? w _ hu
  exact ⟨by rw [hb.cell (p := ⟨b, o + j, none⟩) hlt]; exact h1, by rw [hb.frozen (p := ⟨b, o + j, none⟩) hlt]; exact h2⟩
theorem there_set {w : World} {b o n : Nat} (h : w.there b o n) (g p : Nat) (u : Value) : (w.setCell ⟨g, p, none⟩ u).there b o n := fun j hj => by
  obtain ⟨h1, h2⟩ := h j hj
  exact ⟨World.isSome_setCells g [u] p w ⟨b, o + j, none⟩ h1, by rw [World.frozen?_setCell]; exact h2⟩
theorem strAt_snoc {w : World} {b o : Nat} {ss : List ByteArray} {x : ByteArray} (h : StrAt w b o ss) (ht : (w.cell? ⟨b, o + ss.length, none⟩).isSome = true) : StrAt (w.setCell ⟨b, o + ss.length, none⟩ (.string x)) b o (ss ++ [x]) := fun j hj => by
  by_cases hlt : j < ss.length
  · rw [World.cell?_setCell_other w ⟨b, o + ss.length, none⟩ ⟨b, o + j, none⟩ _ (fun e => by injection e; omega), h j hlt]
    simp [hlt]
  · have : j = ss.length := by simp at hj; omega
    subst this
    obtain ⟨u, hu⟩ := Option.isSome_iff_exists.1 ht
    rw [World.cell?_setCell_same w _ _ hu]
    simp
theorem marks_succ (k n : Nat) : marks k (n + 1) = marks k n ++ [mtxt (k + n)] := by
  unfold marks; rw [List.range_succ, List.map_append]; rfl
set_option maxHeartbeats 800000 in
set_option maxRecDepth 100000 in
theorem mark_any (b o n cap k : Nat) (w : World) (hn : n ≤ 140737488355328) (hk : 1 ≤ k) (hkn : k + n ≤ 1099511627776) (hT : w.there b o n) :
    Calls Tryd.prog 18 #[.slice (some ⟨b, o, none⟩) n cap, .int .i64 (k : Int)] w fun e w' => e = .returned (.int .i64 ((k + n : Nat) : Int)) ∧ StrAt w' b o (marks k n) ∧ w'.there b o n ∧ w.grownBy w' (some b) := by
  have HT : Hid (w.there b o n) := hT
  clear hT
  go_enter Tryd.func18, Tryd.ntmps18
  go_wp2
  go_loopw [1, 5] (fun kk i wr => ∃ j : Nat, j ≤ n ∧ i = .int .i64 j ∧ kk = .int .i64 ((k + j : Nat) : Int) ∧ Hid (StrAt wr b o (marks k j)) ∧ Hid (wr.there b o n) ∧ w.grownBy wr (some b)) (fun _ i _ => n - (intOf i).toNat)
  case atStart => exact ⟨0, by omega, rfl, rfl, fun j hj => absurd hj (by simp [marks]), HT, gr_refl _ _⟩
  case round =>
    obtain ⟨j, hj, rfl, rfl, HS, HTW, hg⟩ := hrel
    by_cases hlt : j < n
    · have hlt' : (j : Int) < (n : Int) := by omega
      go_wp2_with fail
      refine (mtext_any (k + j) (by omega) (by omega) wr).mono ?_
      rintro e w1 ⟨rfl, hb1⟩
      have HT1 : Hid (w1.there b o n) := there_below HTW.out hb1
      have HS1 : Hid (StrAt w1 b o (marks k j)) := HS.out.below hb1
      obtain ⟨h1, hf⟩ := HT1.out j hlt
      obtain ⟨u, hc⟩ := Option.isSome_iff_exists.1 h1
      have HS2 : Hid (StrAt (w1.setCell ⟨b, o + j, none⟩ (.string (mtxt (k + j)))) b o (marks k (j + 1))) := by
        have := strAt_snoc (x := mtxt (k + j)) HS1.out (by rw [length_marks]; exact h1)
        rw [length_marks] at this
        rw [marks_succ]; exact this
      have HT2 : Hid ((w1.setCell ⟨b, o + j, none⟩ (.string (mtxt (k + j)))).there b o n) := there_set HT1.out _ _ _
      have hg2 : w.grownBy (w1.setCell ⟨b, o + j, none⟩ (.string (mtxt (k + j)))) (some b) := gr_trans (gr_trans hg (gr_below hb1)) (gr_set _ _ _ _)
      clear hb1 h1 HS HTW hg
      go_wp2
      go_roundw
      case rel => exact ⟨j + 1, by omega, by go_num, by go_num, HS2, HT2, hg2⟩
      case measure => simp [intOf]; omega
    · obtain rfl : j = n := by omega
      go_wp2
      go_ret
      exact ⟨rfl, HS.out, HTW.out, hg⟩
set_option maxHeartbeats 800000 in
set_option maxRecDepth 100000 in
theorem held_any (a : Option Addr) (n cap k : Nat) (w : World) (hn : n ≤ 140737488355328) (hk : 1 ≤ k) (hkn : k + n ≤ 1099511627776) (hS : StrO w a (marks k n)) :
    Calls Tryd.prog 19 #[.slice a n cap, .int .i64 (k : Int)] w fun e w' => e = .returned (.int .i64 ((k + n : Nat) : Int)) ∧ Below w.heap.size w w' := by
  have HS : Hid (StrO w a (marks k n)) := hS
  clear hS
  go_enter Tryd.func19, Tryd.ntmps19
  go_wp2
  go_loopw [1, 5] (fun kk i wr => ∃ j : Nat, j ≤ n ∧ i = .int .i64 j ∧ kk = .int .i64 ((k + j : Nat) : Int) ∧ Below w.heap.size w wr) (fun _ i _ => n - (intOf i).toNat)
  case atStart => exact ⟨0, by omega, rfl, rfl, Below.refl _ _⟩
  case round =>
    obtain ⟨j, hj, rfl, rfl, hb⟩ := hrel
    by_cases hlt : j < n
    · have hlt' : (j : Int) < (n : Int) := by omega
      obtain ⟨b, o, rfl, hc0⟩ := HS.out.get (j := j) (by rw [length_marks]; exact hlt)
      rw [marks_at] at hc0
      have hbl := World.block_lt_of_cell? w _ hc0
      have hc : wr.cell? ⟨b, o + j, none⟩ = some (.string (mtxt (k + j))) := by
        rw [hb.cell (p := ⟨b, o + j, none⟩) hbl]; exact hc0
      have HB : Hid (Below w.heap.size w wr) := hb
      have HC : Hid (wr.cell? ⟨b, o + j, none⟩ = some (.string (mtxt (k + j)))) := hc
      clear hc0
      have hxx : ((mtxt (k + j)).toList != (mtxt (k + j)).toList) = false := by simp
      have HM : Hid (∀ W : World, Calls Tryd.prog 32 #[.int .i64 ((k + j : Nat) : Int)] W fun e w' => e = .returned (.string (mtxt (k + j))) ∧ Below W.heap.size W w') := fun W => mtext_any (k + j) (by omega) (by omega) W
      generalize mtxt (k + j) = x at *
      have hq : ∀ W : World, Below wr.heap.size wr W → W.cell? ⟨b, o + j, none⟩ = some (.string x) := fun W h => by
        rw [h.cell (p := ⟨b, o + j, none⟩) (World.block_lt_of_cell? wr _ hc)]; exact hc
      have HQ : Hid (∀ W : World, Below wr.heap.size wr W → W.cell? ⟨b, o + j, none⟩ = some (.string x)) := hq
      clear hq hb
      go_wp2
      go_region_held3 (fun W : World => W.cell? ⟨b, o + j, none⟩ = some (.string x) ∧ Below wr.heap.size wr W) (first | exact ⟨HC.out, Below.refl _ _⟩ | exact ⟨HC.out, (Below.refl _ _).drew⟩ | assumption) ((go_at_call 32; refine (HM.out _).mono ?_; rintro e w1 ⟨rfl, hb1⟩; have hS1 : w1.cell? ⟨b, o + j, none⟩ = some (.string x) ∧ Below wr.heap.size wr w1 := ⟨HQ.out _ (((Below.refl _ _).drew).trans hb1), ((Below.refl _ _).drew).trans hb1⟩))
      all_goals
        have hb2 : Below w.heap.size w w1 := HB.out.trans (hS1.2.mono HB.out.size)
        clear hS1 hb1
        go_wp2
        go_roundw
        case rel => exact ⟨j + 1, by omega, by go_num, by go_num, hb2⟩
        case measure => simp [intOf]; omega
    · obtain rfl : j = n := by omega
      go_wp2
      go_ret
      exact ⟨rfl, hb⟩
/-- Texts of an answer: none, or in cells of its own that may be written. -/
def Fr (B : Nat) (w : World) (a : Option Addr) (l : List ByteArray) : Prop := l.length = 0 ∨ ∃ b o, a = some ⟨b, o, none⟩ ∧ B ≤ b ∧ StrAt w b o l ∧ w.there b o l.length
theorem Fr.o {B : Nat} {w : World} {a : Option Addr} {l : List ByteArray} (h : Fr B w a l) : StrO w a l := by
  rcases h with h | ⟨b, o, h1, h2, h3, h4⟩
  · exact .inl h
  · exact .inr ⟨b, o, h1, h3⟩
theorem Fr.below {B : Nat} {w w' : World} {a : Option Addr} {l : List ByteArray} (h : Fr B w a l) (hb : Below w.heap.size w w') : Fr B w' a l := by
  rcases h with h | ⟨b, o, h1, h2, h3, h4⟩
  · exact .inl h
  · exact .inr ⟨b, o, h1, h2, h3.below hb, there_below h4 hb⟩
theorem strAt_other {w w' : World} {b o g : Nat} {l : List ByteArray} (h : StrAt w b o l) (hg : w.grownBy w' (some g)) (hne : b ≠ g) : StrAt w' b o l := fun j hj => by
  have hc := h j hj
  have hlt := World.block_lt_of_cell? w _ hc
  rw [World.cell?_of_block (w := w) (a := ⟨b, o + j, none⟩) (hg.block b hlt (fun e => hne (by injection e)))]
  exact hc
theorem there_other {w w' : World} {b o g n : Nat} (h : w.there b o n) (hg : w.grownBy w' (some g)) (hne : b ≠ g) : w'.there b o n := fun j hj => by
  obtain ⟨h1, h2⟩ := h j hj
  obtain ⟨u, hu⟩ := Option.isSome_iff_exists.1 h1
  have hlt := World.block_lt_of_cell? w _ hu
  have hblk := hg.block b hlt (fun e => hne (by injection e))
  exact ⟨by rw [World.cell?_of_block (w := w) (a := ⟨b, o + j, none⟩) hblk]; exact h1, by rw [World.frozen?_of_block (w := w) (a := ⟨b, o + j, none⟩) hblk]; exact h2⟩
theorem Fr.other {B g : Nat} {w w' : World} {a : Option Addr} {l : List ByteArray} (h : Fr B w a l) (hg : w.grownBy w' (some g)) (hB : g < B) : Fr B w' a l := by
  rcases h with h | ⟨b, o, h1, h2, h3, h4⟩
  · exact .inl h
  · exact .inr ⟨b, o, h1, h2, strAt_other h3 hg (by omega), there_other h4 hg (by omega)⟩
theorem own_str {w : World} {B g cap : Nat} {l : List ByteArray} (h : OwnT w B (.slice (some ⟨g, 0, none⟩) l.length cap) l) : StrAt w g 0 l := fun j hj => by
  rw [Nat.zero_add, h.cellAt j (by omega), List.getElem?_map, List.getElem?_eq_getElem hj]; rfl
theorem own_there {w : World} {B g cap : Nat} {l : List ByteArray} (h : OwnT w B (.slice (some ⟨g, 0, none⟩) l.length cap) l) : w.there g 0 l.length := fun j hj => by
  have := own_str h j hj
  exact ⟨by rw [this]; rfl, by rw [Nat.zero_add]; exact h.frozenAt j⟩
theorem own_fr {w : World} {B : Nat} {v : Value} {l : List ByteArray} (h : w.ownsRow B 9 1 v l.length (l.map sv)) : ∃ a c, v = .slice a l.length c ∧ l.length ≤ c ∧ c ≤ 9223372036854775807 ∧ Fr B w a l := by
  rcases h.2 with ⟨e0, h0⟩ | ⟨g, cap, cur, e0, hb, hg, hn, hm, _⟩
  · exact ⟨none, 0, by rw [e0, h0], by omega, by omega, .inl h0⟩
  · subst e0
    exact ⟨_, cap, rfl, hn, hm, .inr ⟨g, 0, rfl, hb, own_str h, own_there h⟩⟩
/-- The marks laid into the texts of an answer, none or more: what lay below the answer's memory stands. -/
theorem mark_fr (B : Nat) (a : Option Addr) (l : List ByteArray) (cap k : Nat) (w : World) (hB : B ≤ w.heap.size) (hn : l.length ≤ 140737488355328) (hk : 1 ≤ k) (hkn : k + l.length ≤ 1099511627776) (hF : Fr B w a l) :
    Calls Tryd.prog 18 #[.slice a l.length cap, .int .i64 (k : Int)] w fun e w' => e = .returned (.int .i64 ((k + l.length : Nat) : Int)) ∧ StrO w' a (marks k l.length) ∧ Below B w w' := by
  rcases hF with h0 | ⟨b, o, rfl, hb, _, hT⟩
  · rw [h0]
    have HM : Hid (StrO w a (marks k 0)) := .inl (by rw [length_marks])
    go_enter Tryd.func18, Tryd.ntmps18
    go_wp2
    go_loopw [1, 5] (fun kk i wr => i = .int .i64 0 ∧ kk = .int .i64 (k : Int) ∧ wr = w) (fun _ _ _ => 0)
    case atStart => exact ⟨rfl, rfl, rfl⟩
    case round =>
      obtain ⟨rfl, rfl, rfl⟩ := hrel
      go_wp2
      go_ret
      exact ⟨rfl, HM.out, Below.refl _ _⟩
  · refine (mark_any b o l.length cap k w hn hk hkn hT).mono ?_
    rintro e w' ⟨rfl, h1, _, h3⟩
    exact ⟨rfl, .inr ⟨b, o, rfl, h1⟩, (Below.refl B w).grown h3 hB (fun j hj => by cases hj; exact hb)⟩
end Go.Proofs.YtdpjlfgfacjfeaaDoor
