/- FnEvidence at every code of at most 2 to the 20 bytes: true; old memory stays. Conditions: the table lies where it should. -/
import Derived.Test.YtclajbadeclbdaaDoorHB
import Derived.Test.YtclajbadeclbdaaDoorEf
import Derived.Test.YtclajbadeclbdaaDoorLji
namespace Go.Proofs.YtclajbadeclbdaaDoor
open Go.RowKit
open Num
set_option linter.unusedVariables false
set_option maxHeartbeats 400000 in
set_option maxRecDepth 100000 in
theorem big_any (a : Option Addr) (len cap : Nat) (w : World) (hm : len ≤ 9223372036854775807) :
    Calls Tryd.prog 8 #[.slice a len cap] w fun e w' => e = .returned (.bool (decide ((1048576 : Int) < (len : Int)))) ∧ w' = w := by
  go_enter Tryd.func8, Tryd.ntmps8
  go_wp2
  go_ret
  exact ⟨rfl, rfl⟩
set_option maxHeartbeats 800000 in
set_option maxRecDepth 100000 in
theorem same_ints (a a' : Option Addr) (l : List Int) (cap cap' : Nat) (w : World) (hl : NumsO w a l) (hl' : NumsO w a' l) (h1 : l.length ≤ 1048576) :
    Calls Tryd.prog 11 #[.slice a l.length cap, .slice a' l.length cap'] w fun e w' => e = .returned (.bool true) ∧ Below w.heap.size w w' := by
  have HL : Hid (NumsO w a l) := hl
  have HL' : Hid (NumsO w a' l) := hl'
  clear hl hl'
  go_enter Tryd.func11, Tryd.ntmps11
  go_wp2
  go_loopw [5] (fun iv wr => ∃ k : Nat, k ≤ l.length ∧ iv = .int .i64 k ∧ Below w.heap.size w wr) (fun iv _ => l.length - (intOf iv).toNat)
  case atStart => exact ⟨0, Nat.zero_le _, rfl, Below.refl _ _⟩
  case round =>
    obtain ⟨k, hk, rfl, hb⟩ := hrel
    by_cases hlt : k < l.length
    · have hltz : (k : Int) < (l.length : Int) := by omega
      rcases HL.out with h0 | ⟨b, o, rfl, hv0⟩
      · omega
      rcases HL'.out with h0 | ⟨b', o', rfl, hv0'⟩
      · omega
      have hn := bel_some wr
      have q := (hv0.below hb) k hlt
      have q' := (hv0'.below hb) k hlt
      have c1 := fun p : Bel wr => p.cell q
      have c2 := fun p : Bel wr => p.cell q'
      generalize l[k] = y at *
      clear hv0 hv0' q q'
      go_wp2_with fail
      refine wp_region_below (by kernel_rfl) (by kernel_rfl) ?_
      repeat (go_big_quiet_step (fail))
      refine wpQuiet_nil ?_
      intro _ hw'
      obtain ⟨pq, hw''⟩ := hw'
      subst hw''
      have hb3 := hb.trans (pq.h.mono hb.size)
      clear c1 c2
      go_wp2
      go_roundw
      case rel => exact ⟨k + 1, by omega, by go_num, hb3⟩
      case measure => simp [intOf]; omega
    · have hltz : ¬ (k : Int) < (l.length : Int) := by omega
      go_wp2
      go_ret
      exact ⟨rfl, hb⟩
set_option maxHeartbeats 800000 in
set_option maxRecDepth 100000 in
theorem has_int (a : Option Addr) (l : List Int) (cap : Nat) (z : Int) (w : World) (hl : NumsO w a l) (h1 : l.length ≤ 1048576) (hz : z ∈ l) :
    Calls Tryd.prog 16 #[.slice a l.length cap, .int .i64 z] w fun e w' => e = .returned (.bool true) ∧ Below w.heap.size w w' := by
  have HL : Hid (NumsO w a l) := hl
  have HZ : Hid (z ∈ l) := hz
  clear hl hz
  go_enter Tryd.func16, Tryd.ntmps16
  go_wp2
  go_loopw [5] (fun iv wr => ∃ k : Nat, k ≤ l.length ∧ iv = .int .i64 k ∧ Hid (∀ j (hj : j < l.length), j < k → l[j] ≠ z) ∧ Below w.heap.size w wr) (fun iv _ => l.length - (intOf iv).toNat)
  case atStart => exact ⟨0, Nat.zero_le _, rfl, (fun j hj h => absurd h (Nat.not_lt_zero _)), Below.refl _ _⟩
  case round =>
    obtain ⟨k, hk, rfl, HN, hb⟩ := hrel
    by_cases hlt : k < l.length
    · have hltz : (k : Int) < (l.length : Int) := by omega
      rcases HL.out with h0 | ⟨b, o, rfl, hv0⟩
      · omega
      have c1 := (hb.cell (p := ⟨b, o + k, none⟩) (World.block_lt_of_cell? w _ (hv0 k hlt))).trans (hv0 k hlt)
      have HS : Hid (l[k] ≠ z → ∀ j (hj : j < l.length), j < k + 1 → l[j] ≠ z) := fun hne j hj h => by
        by_cases e : j = k
        · subst e; exact hne
        · exact HN.out j hj (by omega)
      clear hv0
      generalize l[k] = y at *
      by_cases hy : y = z
      · subst hy
        go_wp2
        go_ret
        exact ⟨rfl, hb⟩
      · have HN2 : Hid (∀ j (hj : j < l.length), j < k + 1 → l[j] ≠ z) := HS.out hy
        clear HS HN
        go_wp2
        go_roundw
        case rel => exact ⟨k + 1, by omega, by go_num, HN2, hb⟩
        case measure => simp [intOf]; omega
    · obtain ⟨j, hj, e⟩ := List.getElem_of_mem HZ.out
      exact absurd e (HN.out j hj (by omega))
theorem code_below {w W : World} {a : Option Addr} {L : List UInt8} (hl : CodeAt w w.heap.size a L) (hb : Below w.heap.size w W) : CodeAt W W.heap.size a L := by
  intro j hj
  obtain ⟨b, off, e, hne, hc⟩ := hl j hj
  have h1 : b < w.heap.size := World.block_lt_of_cell? w _ hc
  refine ⟨b, off, e, by have := hb.size; omega, ?_⟩
  rw [hb.cell (p := ⟨b, off + j, none⟩) h1]; exact hc
theorem oV_some {o : Option (Sv × Sv)} (h : o.isSome = true) : ∃ a b, o = some (a, b) ∧ oV o = eV a b := by
  obtain ⟨⟨a, b⟩, rfl⟩ := Option.isSome_iff_exists.1 h
  exact ⟨a, b, rfl, rfl⟩
/-- What stands while the law goes on: the list, whom Blame told, old memory. -/
def EvS (w W : World) (u : Option Addr) (X : List Sv) (q : Option Addr) (Z : List Int) : Prop := YO W u X ∧ NumsO W q Z ∧ Below w.heap.size w W
theorem EvS.below {w W W' : World} {u : Option Addr} {X : List Sv} {q : Option Addr} {Z : List Int} (h : EvS w W u X q Z) (hb : Below W.heap.size W W') : EvS w W' u X q Z :=
  ⟨h.1.below hb, h.2.1.below hb, h.2.2.trans (hb.mono h.2.2.size)⟩
set_option maxHeartbeats 12800000 in
set_option maxRecDepth 100000 in
theorem fn_evid (a : Option Addr) (L : List UInt8) (cap : Nat) (w : World) (hl : CodeAt w w.heap.size a L) (hT : Tab w) (hlen : L.length ≤ 1048576) :
    Calls Tryd.prog 3 #[.slice a L.length cap] w fun e w' => e = .returned (.bool true) ∧ Below w.heap.size w w' := by
  have HL : Hid (CodeAt w w.heap.size a L) := hl
  have HT : Hid (Tab w) := hT
  have kB := big_any a L.length cap w (by omega)
  rw [decide_eq_false (by omega)] at kB
  clear hl hT
  go_enter Tryd.func3, Tryd.ntmps3
  go_wp2_with fail
  refine kB.mono ?_
  clear kB
  rintro e w0 ⟨rfl, rfl⟩
  go_wp2_with fail
  refine (draw_blame a L cap w0 HL.out hlen).mono ?_
  rintro e w1 ⟨v1, X, rfl, HO1, HX, hX, HB1⟩
  obtain ⟨u, cu, rfl, hYO, _, _⟩ := HO1.out.o
  have HY1 : Hid (YO w1 u X) := hYO
  have HSX : Hid (∀ y ∈ X, SmY y) := fun y hy => ⟨by have := (HX.out y hy).1; omega, by have := (HX.out y hy).2; omega⟩
  have hX20 : X.length ≤ 1048576 := by omega
  have hX63 : X.length ≤ 9223372036854775807 := by omega
  clear HO1 hYO HX
  go_wp2_with fail
  refine (impl_blame u X cu w1 HY1.out hX20 (HT.out.below HB1.out HT.out.pos)).mono ?_
  rintro e w2 ⟨q2, rfl, h2, b2⟩
  obtain ⟨q, cq, rfl, hN2, _, _⟩ := OwnI.sl h2
  have HS2 : Hid (EvS w0 w2 u X q (bl X)) := ⟨HY1.out.below b2, hN2, HB1.out.trans (b2.mono HB1.out.size)⟩
  clear h2 hN2 b2 HY1 HB1
  go_wp2_with fail
  refine (spec_blame u X cu w2 HS2.out.1 hX63).mono ?_
  rintro e w3 ⟨q3, rfl, h3, b3⟩
  obtain ⟨p3, c3, rfl, hN3, _, _⟩ := OwnI.sl h3
  have HN3 : Hid (NumsO w3 p3 (bl X)) := hN3
  have HS3 : Hid (EvS w0 w3 u X q (bl X)) := HS2.out.below b3
  have hZ20 : (bl X).length ≤ 1048576 := by have := bl_len X; omega
  have HZM : Hid (∀ j (hj : j < (bl X).length), ∃ a b, fe X (bl X)[j] = some (a, b) ∧ oV (fe X (bl X)[j]) = eV a b ∧ (fe X (bl X)[j]).isSome = true ∧ evB a b = true ∧ a.x.v = (bl X)[j]) := fun j hj => by
    have h1 := (bl_mem X _).1 (List.getElem_mem hj)
    obtain ⟨a, b, h2, h3⟩ := oV_some h1
    obtain ⟨h4, h5⟩ := fe_ok h2
    exact ⟨a, b, h2, h3, h1, h4, h5⟩
  have HZH : Hid (∀ k i (hk : k < i) (hi : i < X.length), evB X[k] X[i] = true → X[i].x.v ∈ bl X) := fun k i hk hi h => by
    have e : X[k].x.v = X[i].x.v := plc_v (evB_iff.1 h).2.2.1
    rw [← e]
    exact (bl_mem X _).2 (fe_is hk hi h rfl)
  clear h3 hN3 b3 HS2
  generalize bl X = Z at *
  go_wp2_with fail
  refine (same_ints q p3 Z cq c3 w3 HS3.out.2.1 HN3.out hZ20).mono ?_
  rintro e w4 ⟨rfl, b4⟩
  have HS4 : Hid (EvS w0 w4 u X q Z) := HS3.out.below b4
  clear b4 HS3 HN3
  go_upto_block 0 with fail
  go_cut [] (fun wx => Hid (EvS w0 wx u X q Z))
  case first =>
    go_wp2_with fail
    go_loopw [5] (fun iv wr => ∃ k : Nat, k ≤ Z.length ∧ iv = .int .i64 k ∧ Hid (EvS w0 wr u X q Z)) (fun iv _ => Z.length - (intOf iv).toNat)
    case atStart => exact ⟨0, Nat.zero_le _, rfl, HS4⟩
    case round =>
      obtain ⟨k, hk, rfl, HS⟩ := hrel
      clear HS4
      by_cases hlt : k < Z.length
      · have hltz : (k : Int) < (Z.length : Int) := by omega
        rcases HS.out.2.1 with h0 | ⟨bq, oq, rfl, hIA⟩
        · omega
        have c1 := hIA k hlt
        have hbq : bq < wr.heap.size := World.block_lt_of_cell? wr _ c1
        obtain ⟨ea, eb, hf1, hf2, hf3, hf4, hf5⟩ := HZM.out k hlt
        have kF := fun W (h : YO W u X) (hT : Tab W) => impl_find u X cu Z[k] W h hX20 HSX.out hT
        rw [hf2, hf3] at kF
        have kE := fun W => spec_evok ea eb W
        have kC := fun W (hT : Tab W) => impl_culprit ea eb W hT
        rw [hf4] at kE kC
        have kC' : ∀ W, Tab W → Calls Tryd.prog 15 #[eV ea eb] W fun e w' => e = .returned (.int .i64 Z[k]) ∧ Below W.heap.size W w' := fun W h => by
          have := kC W h
          rw [← hf5]; exact this
        clear kC hIA hf1 hf2 hf3 hf4 hf5
        generalize Z[k] = z at *
        obtain ⟨⟨h, r, s, i, v⟩, g⟩ := ea
        obtain ⟨⟨h', r', s', i', v'⟩, g'⟩ := eb
        unfold eV at kF kE kC'
        simp only at kF kE kC'
        have HC1 : Hid (wr.cell? ⟨bq, oq + k, none⟩ = some (.int .i64 z)) := c1
        go_wp2_with fail
        clear c1
        refine (kF _ HS.out.1 (HT.out.below HS.out.2.2 HT.out.pos)).mono ?_
        rintro e w5 ⟨rfl, b5⟩
        have HS5 : Hid (EvS w0 w5 u X (some ⟨bq, oq, none⟩) Z) := HS.out.below b5
        have HC5 : Hid (w5.cell? ⟨bq, oq + k, none⟩ = some (.int .i64 z)) := (b5.cell (p := ⟨bq, oq + k, none⟩) hbq).trans HC1.out
        have hb5 : bq < w5.heap.size := Nat.lt_of_lt_of_le hbq b5.size
        clear HS b5 kF HC1
        obtain ⟨wa, hwa⟩ : ∃ W, w5.alloc (.cells [.int .i64 h, .int .i64 r, .int .i64 s, .string i, .int .i64 v, .string g, .int .i64 h', .int .i64 r', .int .i64 s', .string i', .int .i64 v', .string g'].toArray 34) = W := ⟨_, rfl⟩
        have HX6 : Hid (Blk wa w5.heap.size [.int .i64 h, .int .i64 r, .int .i64 s, .string i, .int .i64 v, .string g, .int .i64 h', .int .i64 r', .int .i64 s', .string i', .int .i64 v', .string g'] 34) := by rw [← hwa]; exact blk_new w5 _ _
        have HS6 : Hid (EvS w0 wa u X (some ⟨bq, oq, none⟩) Z) := by rw [← hwa]; exact HS5.out.below (below_one _ _)
        have HC6 : Hid (wa.cell? ⟨bq, oq + k, none⟩ = some (.int .i64 z)) := by rw [← hwa]; exact ((below_one w5 _).cell (p := ⟨bq, oq + k, none⟩) hb5).trans HC5.out
        have hb6 : bq < wa.heap.size := by rw [← hwa]; simp; omega
        clear HS5 HC5
        go_wp2_with fail
        clear hwa
        have hw5 : w5.heap.size < wa.drew.heap.size := HX6.out.lt
        have hbd : bq < wa.drew.heap.size := hb6
        have HSd : Hid (EvS w0 wa.drew u X (some ⟨bq, oq, none⟩) Z) := HS6.out.below (Below.refl _ _).drew
        have HS0 : Hid ((fun W : World => (W.cell? ⟨w5.heap.size, 0, none⟩ = some (Value.int .i64 h) ∧ W.cell? ⟨w5.heap.size, 1, none⟩ = some (Value.int .i64 r) ∧ W.cell? ⟨w5.heap.size, 2, none⟩ = some (Value.int .i64 s) ∧ W.cell? ⟨w5.heap.size, 3, none⟩ = some (Value.string i) ∧ W.cell? ⟨w5.heap.size, 4, none⟩ = some (Value.int .i64 v) ∧ W.cell? ⟨w5.heap.size, 5, none⟩ = some (Value.string g) ∧ W.cell? ⟨w5.heap.size, 6, none⟩ = some (Value.int .i64 h') ∧ W.cell? ⟨w5.heap.size, 7, none⟩ = some (Value.int .i64 r') ∧ W.cell? ⟨w5.heap.size, 8, none⟩ = some (Value.int .i64 s') ∧ W.cell? ⟨w5.heap.size, 9, none⟩ = some (Value.string i') ∧ W.cell? ⟨w5.heap.size, 10, none⟩ = some (Value.int .i64 v') ∧ W.cell? ⟨w5.heap.size, 11, none⟩ = some (Value.string g')) ∧ W.cell? ⟨bq, oq + k, none⟩ = some (Value.int .i64 z)) wa.drew) := ⟨⟨HX6.out.cell 0 rfl, HX6.out.cell 1 rfl, HX6.out.cell 2 rfl, HX6.out.cell 3 rfl, HX6.out.cell 4 rfl, HX6.out.cell 5 rfl, HX6.out.cell 6 rfl, HX6.out.cell 7 rfl, HX6.out.cell 8 rfl, HX6.out.cell 9 rfl, HX6.out.cell 10 rfl, HX6.out.cell 11 rfl⟩, HC6.out⟩
        have HSB : Hid (∀ W, Below wa.drew.heap.size wa.drew W → (fun W : World => (W.cell? ⟨w5.heap.size, 0, none⟩ = some (Value.int .i64 h) ∧ W.cell? ⟨w5.heap.size, 1, none⟩ = some (Value.int .i64 r) ∧ W.cell? ⟨w5.heap.size, 2, none⟩ = some (Value.int .i64 s) ∧ W.cell? ⟨w5.heap.size, 3, none⟩ = some (Value.string i) ∧ W.cell? ⟨w5.heap.size, 4, none⟩ = some (Value.int .i64 v) ∧ W.cell? ⟨w5.heap.size, 5, none⟩ = some (Value.string g) ∧ W.cell? ⟨w5.heap.size, 6, none⟩ = some (Value.int .i64 h') ∧ W.cell? ⟨w5.heap.size, 7, none⟩ = some (Value.int .i64 r') ∧ W.cell? ⟨w5.heap.size, 8, none⟩ = some (Value.int .i64 s') ∧ W.cell? ⟨w5.heap.size, 9, none⟩ = some (Value.string i') ∧ W.cell? ⟨w5.heap.size, 10, none⟩ = some (Value.int .i64 v') ∧ W.cell? ⟨w5.heap.size, 11, none⟩ = some (Value.string g')) ∧ W.cell? ⟨bq, oq + k, none⟩ = some (Value.int .i64 z)) W) := fun W hb => ⟨⟨(hb.cell (p := ⟨w5.heap.size, 0, none⟩) hw5).trans HS0.out.1.1, (hb.cell (p := ⟨w5.heap.size, 1, none⟩) hw5).trans HS0.out.1.2.1, (hb.cell (p := ⟨w5.heap.size, 2, none⟩) hw5).trans HS0.out.1.2.2.1, (hb.cell (p := ⟨w5.heap.size, 3, none⟩) hw5).trans HS0.out.1.2.2.2.1, (hb.cell (p := ⟨w5.heap.size, 4, none⟩) hw5).trans HS0.out.1.2.2.2.2.1, (hb.cell (p := ⟨w5.heap.size, 5, none⟩) hw5).trans HS0.out.1.2.2.2.2.2.1, (hb.cell (p := ⟨w5.heap.size, 6, none⟩) hw5).trans HS0.out.1.2.2.2.2.2.2.1, (hb.cell (p := ⟨w5.heap.size, 7, none⟩) hw5).trans HS0.out.1.2.2.2.2.2.2.2.1, (hb.cell (p := ⟨w5.heap.size, 8, none⟩) hw5).trans HS0.out.1.2.2.2.2.2.2.2.2.1, (hb.cell (p := ⟨w5.heap.size, 9, none⟩) hw5).trans HS0.out.1.2.2.2.2.2.2.2.2.2.1, (hb.cell (p := ⟨w5.heap.size, 10, none⟩) hw5).trans HS0.out.1.2.2.2.2.2.2.2.2.2.2.1, (hb.cell (p := ⟨w5.heap.size, 11, none⟩) hw5).trans HS0.out.1.2.2.2.2.2.2.2.2.2.2.2⟩, (hb.cell (p := ⟨bq, oq + k, none⟩) hbd).trans HS0.out.2⟩
        have hTd : Hid (Tab wa.drew) := HT.out.below HSd.out.2.2 HT.out.pos
        clear HX6 HC6 HS6 hb6
        refine wp_region_held_drew (S := (fun W : World => (W.cell? ⟨w5.heap.size, 0, none⟩ = some (Value.int .i64 h) ∧ W.cell? ⟨w5.heap.size, 1, none⟩ = some (Value.int .i64 r) ∧ W.cell? ⟨w5.heap.size, 2, none⟩ = some (Value.int .i64 s) ∧ W.cell? ⟨w5.heap.size, 3, none⟩ = some (Value.string i) ∧ W.cell? ⟨w5.heap.size, 4, none⟩ = some (Value.int .i64 v) ∧ W.cell? ⟨w5.heap.size, 5, none⟩ = some (Value.string g) ∧ W.cell? ⟨w5.heap.size, 6, none⟩ = some (Value.int .i64 h') ∧ W.cell? ⟨w5.heap.size, 7, none⟩ = some (Value.int .i64 r') ∧ W.cell? ⟨w5.heap.size, 8, none⟩ = some (Value.int .i64 s') ∧ W.cell? ⟨w5.heap.size, 9, none⟩ = some (Value.string i') ∧ W.cell? ⟨w5.heap.size, 10, none⟩ = some (Value.int .i64 v') ∧ W.cell? ⟨w5.heap.size, 11, none⟩ = some (Value.string g')) ∧ W.cell? ⟨bq, oq + k, none⟩ = some (Value.int .i64 z))) (by kernel_rfl) ?_ (fun hHeld => ?_)
        · exact HS0.out
        generalize wa.drew = wd at *
        refine wpAnyH_take (i := 0) (oi := { dst := some 37, op := Go.Op.move (Go.Operand.tmp 7), type := 4, pos := "laws.go:528", after := #[], guard := none }) (v := ?_) rfl (by kernel_rfl) (by kernel_rfl) (by kernel_rfl) (fun _ _ _ h => h) (Or.inl ⟨by rfl, ?_⟩) hHeld ?_
        rotate_left
        · intro w hSw
          try dsimp only at hSw
          go_simp
          try (with_reducible rfl)
        simp only [Act.put, List.setIfInBounds_toArray, List.set_cons_zero, List.set_cons_succ]
        refine wpAnyH_take (i := 1) (oi := { dst := some 38, op := Go.Op.unOp Go.UnOp.not 4 (Go.Operand.tmp 37), type := 4, pos := "laws.go:528", after := #[{ on := 0, ground := Go.Ground.data }], guard := none }) (v := ?_) rfl (by kernel_rfl) (by kernel_rfl) (by kernel_rfl) (fun _ _ _ h => h) (Or.inl ⟨by rfl, ?_⟩) hHeld ?_
        rotate_left
        · intro w hSw
          try dsimp only at hSw
          go_simp
          try (with_reducible rfl)
        simp only [Act.put, List.setIfInBounds_toArray, List.set_cons_zero, List.set_cons_succ]
        refine wpAnyH_take (i := 2) (oi := { dst := some 39, op := Go.Op.move (Go.Operand.tmp 38), type := 4, pos := "laws.go:528", after := #[{ on := 1, ground := Go.Ground.data }], guard := none }) (v := ?_) rfl (by kernel_rfl) (by kernel_rfl) (by kernel_rfl) (fun _ _ _ h => h) (Or.inl ⟨by rfl, ?_⟩) hHeld ?_
        rotate_left
        · intro w hSw
          try dsimp only at hSw
          go_simp
          try (with_reducible rfl)
        simp only [Act.put, List.setIfInBounds_toArray, List.set_cons_zero, List.set_cons_succ]
        refine wpAnyH_take (i := 3) (oi := { dst := some 40, op := Go.Op.load 34 (Go.Operand.tmp 6), type := 34, pos := "laws.go:528", after := #[{ on := 2, ground := Go.Ground.guard }], guard := some (2, false) }) (v := ?_) rfl (by kernel_rfl) (by kernel_rfl) (by kernel_rfl) (fun _ _ _ h => h) (Or.inl ⟨by rfl, ?_⟩) hHeld ?_
        rotate_left
        · intro w hSw
          try dsimp only at hSw
          go_simp
          try (with_reducible rfl)
        simp only [Act.put, List.setIfInBounds_toArray, List.set_cons_zero, List.set_cons_succ]
        refine wpAnyH_ready (rs := [4]) (by kernel_rfl) (by decide) ?_
        refine AllReadyH.cons (o := { dst := some 41, op := Go.Op.call { callee := Go.Callee.value (Go.Operand.func 14), args := #[Go.Operand.tmp 40], argTypes := #[34] }, type := 4, pos := "laws.go:528", after := #[{ on := 3, ground := Go.Ground.data }, { on := 2, ground := Go.Ground.chain }, { on := 2, ground := Go.Ground.guard }], guard := some (2, false) }) rfl (fun K hK => ?_) AllReadyH.nil
        go_simp
        refine (kE _).mono ?_
        rintro ee g1 ⟨rfl, d1⟩
        have HG1 : Hid (Below wd.heap.size wd g1) := d1
        refine hK.out _ _ (HSB.out _ HG1.out) (fun hHeld => ?_)
        clear hK K
        try simp only [Act.put, List.setIfInBounds_toArray, List.set_cons_zero, List.set_cons_succ]
        refine wpAnyH_take (i := 5) (oi := { dst := some 42, op := Go.Op.unOp Go.UnOp.not 4 (Go.Operand.tmp 41), type := 4, pos := "laws.go:528", after := #[{ on := 4, ground := Go.Ground.data }, { on := 2, ground := Go.Ground.guard }], guard := some (2, false) }) (v := ?_) rfl (by kernel_rfl) (by kernel_rfl) (by kernel_rfl) (fun _ _ _ h => h) (Or.inl ⟨by rfl, ?_⟩) hHeld ?_
        rotate_left
        · intro w hSw
          try dsimp only at hSw
          go_simp
          try (with_reducible rfl)
        simp only [Act.put, List.setIfInBounds_toArray, List.set_cons_zero, List.set_cons_succ]
        refine wpAnyH_take (i := 6) (oi := { dst := some 43, op := Go.Op.pick (Go.Operand.tmp 39) (Go.Operand.const (Go.Value.bool true)) (Go.Operand.tmp 42), type := 4, pos := "laws.go:528", after := #[{ on := 2, ground := Go.Ground.data }, { on := 5, ground := Go.Ground.data }], guard := none }) (v := ?_) rfl (by kernel_rfl) (by kernel_rfl) (by kernel_rfl) (fun _ _ _ h => h) (Or.inl ⟨by rfl, ?_⟩) hHeld ?_
        rotate_left
        · intro w hSw
          try dsimp only at hSw
          go_simp
          try (with_reducible rfl)
        simp only [Act.put, List.setIfInBounds_toArray, List.set_cons_zero, List.set_cons_succ]
        refine wpAnyH_take (i := 7) (oi := { dst := some 44, op := Go.Op.move (Go.Operand.tmp 43), type := 4, pos := "laws.go:528", after := #[{ on := 6, ground := Go.Ground.data }, { on := 4, ground := Go.Ground.chain }], guard := none }) (v := ?_) rfl (by kernel_rfl) (by kernel_rfl) (by kernel_rfl) (fun _ _ _ h => h) (Or.inl ⟨by rfl, ?_⟩) hHeld ?_
        rotate_left
        · intro w hSw
          try dsimp only at hSw
          go_simp
          try (with_reducible rfl)
        simp only [Act.put, List.setIfInBounds_toArray, List.set_cons_zero, List.set_cons_succ]
        refine wpAnyH_take (i := 8) (oi := { dst := some 45, op := Go.Op.load 34 (Go.Operand.tmp 6), type := 34, pos := "laws.go:528", after := #[{ on := 7, ground := Go.Ground.guard }], guard := some (7, false) }) (v := ?_) rfl (by kernel_rfl) (by kernel_rfl) (by kernel_rfl) (fun _ _ _ h => h) (Or.inl ⟨by rfl, ?_⟩) hHeld ?_
        rotate_left
        · intro w hSw
          try dsimp only at hSw
          go_simp
          try (with_reducible rfl)
        simp only [Act.put, List.setIfInBounds_toArray, List.set_cons_zero, List.set_cons_succ]
        refine wpAnyH_take (i := 10) (oi := { dst := some 47, op := Go.Op.move (Go.Operand.tmp 4), type := 26, pos := "laws.go:528", after := #[{ on := 7, ground := Go.Ground.guard }], guard := some (7, false) }) (v := ?_) rfl (by kernel_rfl) (by kernel_rfl) (by kernel_rfl) (fun _ _ _ h => h) (Or.inl ⟨by rfl, ?_⟩) hHeld ?_
        rotate_left
        · intro w hSw
          try dsimp only at hSw
          go_simp
          try (with_reducible rfl)
        simp only [Act.put, List.setIfInBounds_toArray, List.set_cons_zero, List.set_cons_succ]
        refine wpAnyH_take (i := 11) (oi := { dst := some 48, op := Go.Op.move (Go.Operand.tmp 5), type := 3, pos := "laws.go:528", after := #[{ on := 7, ground := Go.Ground.guard }], guard := some (7, false) }) (v := ?_) rfl (by kernel_rfl) (by kernel_rfl) (by kernel_rfl) (fun _ _ _ h => h) (Or.inl ⟨by rfl, ?_⟩) hHeld ?_
        rotate_left
        · intro w hSw
          try dsimp only at hSw
          go_simp
          try (with_reducible rfl)
        simp only [Act.put, List.setIfInBounds_toArray, List.set_cons_zero, List.set_cons_succ]
        refine wpAnyH_take (i := 12) (oi := { dst := some 49, op := Go.Op.indexAddr 26 (Go.Operand.tmp 47) (Go.Operand.tmp 48), type := 0, pos := "laws.go:528", after := #[{ on := 10, ground := Go.Ground.data }, { on := 11, ground := Go.Ground.data }, { on := 7, ground := Go.Ground.guard }], guard := some (7, false) }) (v := ?_) rfl (by kernel_rfl) (by kernel_rfl) (by kernel_rfl) (fun _ _ _ h => h) (Or.inl ⟨by rfl, ?_⟩) hHeld ?_
        rotate_left
        · intro w hSw
          try dsimp only at hSw
          go_simp
          try (with_reducible rfl)
        simp only [Act.put, List.setIfInBounds_toArray, List.set_cons_zero, List.set_cons_succ]
        refine wpAnyH_take (i := 13) (oi := { dst := some 50, op := Go.Op.load 3 (Go.Operand.tmp 49), type := 3, pos := "laws.go:528", after := #[{ on := 12, ground := Go.Ground.data }, { on := 7, ground := Go.Ground.guard }], guard := some (7, false) }) (v := ?_) rfl (by kernel_rfl) (by kernel_rfl) (by kernel_rfl) (fun _ _ _ h => h) (Or.inl ⟨by rfl, ?_⟩) hHeld ?_
        rotate_left
        · intro w hSw
          try dsimp only at hSw
          go_simp
          try (with_reducible rfl)
        simp only [Act.put, List.setIfInBounds_toArray, List.set_cons_zero, List.set_cons_succ]
        refine wpAnyH_ready (rs := [9]) (by kernel_rfl) (by decide) ?_
        refine AllReadyH.cons (o := { dst := some 46, op := Go.Op.call { callee := Go.Callee.value (Go.Operand.func 15), args := #[Go.Operand.tmp 45], argTypes := #[34] }, type := 3, pos := "laws.go:528", after := #[{ on := 8, ground := Go.Ground.data }, { on := 7, ground := Go.Ground.chain }, { on := 7, ground := Go.Ground.guard }], guard := some (7, false) }) rfl (fun K hK => ?_) AllReadyH.nil
        go_simp
        refine (kC' _ (hTd.out.below HG1.out hTd.out.pos)).mono ?_
        rintro ee g2 ⟨rfl, d2⟩
        have HG2 : Hid (Below wd.heap.size wd g2) := HG1.out.trans (d2.mono HG1.out.size)
        refine hK.out _ _ (HSB.out _ HG2.out) (fun hHeld => ?_)
        clear hK K
        try simp only [Act.put, List.setIfInBounds_toArray, List.set_cons_zero, List.set_cons_succ]
        refine wpAnyH_take (i := 14) (oi := { dst := some 51, op := Go.Op.binOp Go.BinOp.neq 3 (Go.Operand.tmp 46) (Go.Operand.tmp 50) 3, type := 4, pos := "laws.go:528", after := #[{ on := 9, ground := Go.Ground.data }, { on := 13, ground := Go.Ground.data }, { on := 7, ground := Go.Ground.guard }], guard := some (7, false) }) (v := ?_) rfl (by kernel_rfl) (by kernel_rfl) (by kernel_rfl) (fun _ _ _ h => h) (Or.inl ⟨by rfl, ?_⟩) hHeld ?_
        rotate_left
        · intro w hSw
          try dsimp only at hSw
          go_simp
          try (with_reducible rfl)
        simp only [Act.put, List.setIfInBounds_toArray, List.set_cons_zero, List.set_cons_succ]
        refine wpAnyH_take (i := 15) (oi := { dst := some 52, op := Go.Op.pick (Go.Operand.tmp 44) (Go.Operand.const (Go.Value.bool true)) (Go.Operand.tmp 51), type := 4, pos := "laws.go:528", after := #[{ on := 7, ground := Go.Ground.data }, { on := 14, ground := Go.Ground.data }], guard := none }) (v := ?_) rfl (by kernel_rfl) (by kernel_rfl) (by kernel_rfl) (fun _ _ _ h => h) (Or.inl ⟨by rfl, ?_⟩) hHeld ?_
        rotate_left
        · intro w hSw
          try dsimp only at hSw
          go_simp
          try (with_reducible rfl)
        simp only [Act.put, List.setIfInBounds_toArray, List.set_cons_zero, List.set_cons_succ]
        refine wpAnyH_done (by kernel_rfl) ?_ _
        go_wp2_with fail
        have HS9 : Hid (EvS w0 g2 u X (some ⟨bq, oq, none⟩) Z) := HSd.out.below HG2.out
        clear HSd HS0 HSB HG1 HG2 hHeld
        go_roundw
        case rel => exact ⟨k + 1, by omega, by go_num, HS9⟩
        case measure => simp [intOf]; omega
      · have hltz : ¬ (k : Int) < (Z.length : Int) := by omega
        go_wp2_with fail
        go_meet
        exact HS
  case rest =>
  have HS5 : Hid (EvS w0 _ u X q Z) := hcut
  rename World => w5
  clear HS4 HZM
  go_upto_block 2 with fail
  go_cut [] (fun wx => Hid (EvS w0 wx u X q Z))
  case first =>
    go_wp2_with fail
    go_loopw [8] (fun iv wr => ∃ n : Nat, n ≤ X.length ∧ iv = .int .i64 n ∧ Hid (EvS w0 wr u X q Z)) (fun iv _ => X.length - (intOf iv).toNat)
    case atStart => exact ⟨0, Nat.zero_le _, rfl, HS5⟩
    case round =>
      obtain ⟨n, hn, rfl, HS⟩ := hrel
      clear HS5
      by_cases hlt : n < X.length
      · have hltz : (n : Int) < (X.length : Int) := by omega
        go_wp2_with fail
        go_loopw [9] (fun kv wx => ∃ k : Nat, k ≤ n ∧ kv = .int .i64 k ∧ Hid (EvS w0 wx u X q Z)) (fun kv _ => n - (intOf kv).toNat)
        case atStart => exact ⟨0, Nat.zero_le _, rfl, HS⟩
        case round =>
          obtain ⟨k, hk, rfl, HS1⟩ := hrel
          clear HS
          by_cases hkn : k < n
          · have hknz : (k : Int) < (n : Int) := by omega
            have hkX : k < X.length := by omega
            have hkXz : (k : Int) < (X.length : Int) := by omega
            rcases HS1.out.1 with h0 | ⟨b, o, rfl, hY⟩
            · omega
            have hbw := hY.lt (by omega)
            have hc := hY.six k hkX
            have hd := hY.six n hlt
            have HH := HZH.out k n hkn hlt
            have kE := fun W => spec_evok X[k] X[n] W
            have HHz : Hid (evB X[k] X[n] = true → X[n].x.v ∈ Z) := HH
            clear hY HH
            generalize evB X[k] X[n] = t at *
            generalize X[k] = y1 at *
            generalize X[n] = y2 at *
            obtain ⟨⟨h, r, s, i, v⟩, g⟩ := y1
            obtain ⟨⟨h', r', s', i', v'⟩, g'⟩ := y2
            unfold eV at kE
            simp only at kE hc hd HHz
            go_wp2_with fail
            have hbd : b < wr.drew.heap.size := hbw
            have HSd : Hid (EvS w0 wr.drew (some ⟨b, o, none⟩) X q Z) := HS1.out.below (Below.refl _ _).drew
            have HS0 : Hid ((fun W : World => (W.cell? ⟨b, o + k * 6, none⟩ = some (Value.int .i64 h) ∧ W.cell? ⟨b, o + k * 6 + 1, none⟩ = some (Value.int .i64 r) ∧ W.cell? ⟨b, o + k * 6 + 2, none⟩ = some (Value.int .i64 s) ∧ W.cell? ⟨b, o + k * 6 + 3, none⟩ = some (Value.string i) ∧ W.cell? ⟨b, o + k * 6 + 4, none⟩ = some (Value.int .i64 v) ∧ W.cell? ⟨b, o + k * 6 + 5, none⟩ = some (Value.string g)) ∧ (W.cell? ⟨b, o + n * 6, none⟩ = some (Value.int .i64 h') ∧ W.cell? ⟨b, o + n * 6 + 1, none⟩ = some (Value.int .i64 r') ∧ W.cell? ⟨b, o + n * 6 + 2, none⟩ = some (Value.int .i64 s') ∧ W.cell? ⟨b, o + n * 6 + 3, none⟩ = some (Value.string i') ∧ W.cell? ⟨b, o + n * 6 + 4, none⟩ = some (Value.int .i64 v') ∧ W.cell? ⟨b, o + n * 6 + 5, none⟩ = some (Value.string g'))) wr.drew) := ⟨hc, hd⟩
            have HSB : Hid (∀ W, Below wr.drew.heap.size wr.drew W → (fun W : World => (W.cell? ⟨b, o + k * 6, none⟩ = some (Value.int .i64 h) ∧ W.cell? ⟨b, o + k * 6 + 1, none⟩ = some (Value.int .i64 r) ∧ W.cell? ⟨b, o + k * 6 + 2, none⟩ = some (Value.int .i64 s) ∧ W.cell? ⟨b, o + k * 6 + 3, none⟩ = some (Value.string i) ∧ W.cell? ⟨b, o + k * 6 + 4, none⟩ = some (Value.int .i64 v) ∧ W.cell? ⟨b, o + k * 6 + 5, none⟩ = some (Value.string g)) ∧ (W.cell? ⟨b, o + n * 6, none⟩ = some (Value.int .i64 h') ∧ W.cell? ⟨b, o + n * 6 + 1, none⟩ = some (Value.int .i64 r') ∧ W.cell? ⟨b, o + n * 6 + 2, none⟩ = some (Value.int .i64 s') ∧ W.cell? ⟨b, o + n * 6 + 3, none⟩ = some (Value.string i') ∧ W.cell? ⟨b, o + n * 6 + 4, none⟩ = some (Value.int .i64 v') ∧ W.cell? ⟨b, o + n * 6 + 5, none⟩ = some (Value.string g'))) W) := fun W hb => ⟨⟨(hb.cell (p := ⟨b, o + k * 6, none⟩) hbd).trans hc.1, (hb.cell (p := ⟨b, o + k * 6 + 1, none⟩) hbd).trans hc.2.1, (hb.cell (p := ⟨b, o + k * 6 + 2, none⟩) hbd).trans hc.2.2.1, (hb.cell (p := ⟨b, o + k * 6 + 3, none⟩) hbd).trans hc.2.2.2.1, (hb.cell (p := ⟨b, o + k * 6 + 4, none⟩) hbd).trans hc.2.2.2.2.1, (hb.cell (p := ⟨b, o + k * 6 + 5, none⟩) hbd).trans hc.2.2.2.2.2⟩, ⟨(hb.cell (p := ⟨b, o + n * 6, none⟩) hbd).trans hd.1, (hb.cell (p := ⟨b, o + n * 6 + 1, none⟩) hbd).trans hd.2.1, (hb.cell (p := ⟨b, o + n * 6 + 2, none⟩) hbd).trans hd.2.2.1, (hb.cell (p := ⟨b, o + n * 6 + 3, none⟩) hbd).trans hd.2.2.2.1, (hb.cell (p := ⟨b, o + n * 6 + 4, none⟩) hbd).trans hd.2.2.2.2.1, (hb.cell (p := ⟨b, o + n * 6 + 5, none⟩) hbd).trans hd.2.2.2.2.2⟩⟩
            clear HS1 hc hd hbw
            cases t
            · refine wp_region_held_drew (S := (fun W : World => (W.cell? ⟨b, o + k * 6, none⟩ = some (Value.int .i64 h) ∧ W.cell? ⟨b, o + k * 6 + 1, none⟩ = some (Value.int .i64 r) ∧ W.cell? ⟨b, o + k * 6 + 2, none⟩ = some (Value.int .i64 s) ∧ W.cell? ⟨b, o + k * 6 + 3, none⟩ = some (Value.string i) ∧ W.cell? ⟨b, o + k * 6 + 4, none⟩ = some (Value.int .i64 v) ∧ W.cell? ⟨b, o + k * 6 + 5, none⟩ = some (Value.string g)) ∧ (W.cell? ⟨b, o + n * 6, none⟩ = some (Value.int .i64 h') ∧ W.cell? ⟨b, o + n * 6 + 1, none⟩ = some (Value.int .i64 r') ∧ W.cell? ⟨b, o + n * 6 + 2, none⟩ = some (Value.int .i64 s') ∧ W.cell? ⟨b, o + n * 6 + 3, none⟩ = some (Value.string i') ∧ W.cell? ⟨b, o + n * 6 + 4, none⟩ = some (Value.int .i64 v') ∧ W.cell? ⟨b, o + n * 6 + 5, none⟩ = some (Value.string g')))) (by kernel_rfl) ?_ (fun hHeld => ?_)
              · exact HS0.out
              generalize wr.drew = wd at *
              refine wpAnyH_take (i := 0) (oi := { dst := some 64, op := Go.Op.move (Go.Operand.tmp 3), type := 24, pos := "laws.go:534", after := #[], guard := none }) (v := ?_) rfl (by kernel_rfl) (by kernel_rfl) (by kernel_rfl) (fun _ _ _ h => h) (Or.inl ⟨by rfl, ?_⟩) hHeld ?_
              rotate_left
              · intro w hSw
                try dsimp only at hSw
                go_simp
                try (with_reducible rfl)
              simp only [Act.put, List.setIfInBounds_toArray, List.set_cons_zero, List.set_cons_succ]
              refine wpAnyH_take (i := 1) (oi := { dst := some 65, op := Go.Op.move (Go.Operand.tmp 9), type := 3, pos := "laws.go:534", after := #[], guard := none }) (v := ?_) rfl (by kernel_rfl) (by kernel_rfl) (by kernel_rfl) (fun _ _ _ h => h) (Or.inl ⟨by rfl, ?_⟩) hHeld ?_
              rotate_left
              · intro w hSw
                try dsimp only at hSw
                go_simp
                try (with_reducible rfl)
              simp only [Act.put, List.setIfInBounds_toArray, List.set_cons_zero, List.set_cons_succ]
              refine wpAnyH_take (i := 2) (oi := { dst := some 66, op := Go.Op.indexAddr 24 (Go.Operand.tmp 64) (Go.Operand.tmp 65), type := 0, pos := "laws.go:534", after := #[{ on := 0, ground := Go.Ground.data }, { on := 1, ground := Go.Ground.data }], guard := none }) (v := ?_) rfl (by kernel_rfl) (by kernel_rfl) (by kernel_rfl) (fun _ _ _ h => h) (Or.inl ⟨by rfl, ?_⟩) hHeld ?_
              rotate_left
              · intro w hSw
                try dsimp only at hSw
                go_simp
                try (with_reducible rfl)
              simp only [Act.put, List.setIfInBounds_toArray, List.set_cons_zero, List.set_cons_succ]
              refine wpAnyH_take (i := 3) (oi := { dst := some 67, op := Go.Op.load 32 (Go.Operand.tmp 66), type := 32, pos := "laws.go:534", after := #[{ on := 2, ground := Go.Ground.data }], guard := none }) (v := ?_) rfl (by kernel_rfl) (by kernel_rfl) (by kernel_rfl) (fun _ _ _ h => h) (Or.inl ⟨by rfl, ?_⟩) hHeld ?_
              rotate_left
              · intro w hSw
                try dsimp only at hSw
                go_simp
                try (with_reducible rfl)
              simp only [Act.put, List.setIfInBounds_toArray, List.set_cons_zero, List.set_cons_succ]
              refine wpAnyH_take (i := 4) (oi := { dst := some 68, op := Go.Op.move (Go.Operand.tmp 3), type := 24, pos := "laws.go:534", after := #[], guard := none }) (v := ?_) rfl (by kernel_rfl) (by kernel_rfl) (by kernel_rfl) (fun _ _ _ h => h) (Or.inl ⟨by rfl, ?_⟩) hHeld ?_
              rotate_left
              · intro w hSw
                try dsimp only at hSw
                go_simp
                try (with_reducible rfl)
              simp only [Act.put, List.setIfInBounds_toArray, List.set_cons_zero, List.set_cons_succ]
              refine wpAnyH_take (i := 5) (oi := { dst := some 69, op := Go.Op.move (Go.Operand.tmp 8), type := 3, pos := "laws.go:534", after := #[], guard := none }) (v := ?_) rfl (by kernel_rfl) (by kernel_rfl) (by kernel_rfl) (fun _ _ _ h => h) (Or.inl ⟨by rfl, ?_⟩) hHeld ?_
              rotate_left
              · intro w hSw
                try dsimp only at hSw
                go_simp
                try (with_reducible rfl)
              simp only [Act.put, List.setIfInBounds_toArray, List.set_cons_zero, List.set_cons_succ]
              refine wpAnyH_take (i := 6) (oi := { dst := some 70, op := Go.Op.indexAddr 24 (Go.Operand.tmp 68) (Go.Operand.tmp 69), type := 0, pos := "laws.go:534", after := #[{ on := 4, ground := Go.Ground.data }, { on := 5, ground := Go.Ground.data }], guard := none }) (v := ?_) rfl (by kernel_rfl) (by kernel_rfl) (by kernel_rfl) (fun _ _ _ h => h) (Or.inl ⟨by rfl, ?_⟩) hHeld ?_
              rotate_left
              · intro w hSw
                try dsimp only at hSw
                go_simp
                try (with_reducible rfl)
              simp only [Act.put, List.setIfInBounds_toArray, List.set_cons_zero, List.set_cons_succ]
              refine wpAnyH_take (i := 7) (oi := { dst := some 71, op := Go.Op.load 32 (Go.Operand.tmp 70), type := 32, pos := "laws.go:534", after := #[{ on := 6, ground := Go.Ground.data }], guard := none }) (v := ?_) rfl (by kernel_rfl) (by kernel_rfl) (by kernel_rfl) (fun _ _ _ h => h) (Or.inl ⟨by rfl, ?_⟩) hHeld ?_
              rotate_left
              · intro w hSw
                try dsimp only at hSw
                go_simp
                try (with_reducible rfl)
              simp only [Act.put, List.setIfInBounds_toArray, List.set_cons_zero, List.set_cons_succ]
              refine wpAnyH_take (i := 8) (oi := { dst := some 72, op := Go.Op.build 34 #[(0, Go.Operand.tmp 67), (1, Go.Operand.tmp 71)], type := 34, pos := "laws.go:534", after := #[{ on := 3, ground := Go.Ground.data }, { on := 7, ground := Go.Ground.data }], guard := none }) (v := ?_) rfl (by kernel_rfl) (by kernel_rfl) (by kernel_rfl) (fun _ _ _ h => h) (Or.inl ⟨by rfl, ?_⟩) hHeld ?_
              rotate_left
              · intro w hSw
                try dsimp only at hSw
                go_simp
                try (with_reducible rfl)
              simp only [Act.put, List.setIfInBounds_toArray, List.set_cons_zero, List.set_cons_succ]
              refine wpAnyH_ready (rs := [9]) (by kernel_rfl) (by decide) ?_
              refine AllReadyH.cons (o := { dst := some 73, op := Go.Op.call { callee := Go.Callee.value (Go.Operand.func 14), args := #[Go.Operand.tmp 72], argTypes := #[34] }, type := 4, pos := "laws.go:534", after := #[{ on := 8, ground := Go.Ground.data }], guard := none }) rfl (fun K hK => ?_) AllReadyH.nil
              go_simp
              refine (kE _).mono ?_
              rintro ee g1 ⟨rfl, d1⟩
              have HG1 : Hid (Below wd.heap.size wd g1) := d1
              refine hK.out _ _ (HSB.out _ HG1.out) (fun hHeld => ?_)
              clear hK K
              try simp only [Act.put, List.setIfInBounds_toArray, List.set_cons_zero, List.set_cons_succ]
              refine wpAnyH_take (i := 10) (oi := { dst := some 74, op := Go.Op.move (Go.Operand.tmp 73), type := 4, pos := "laws.go:534", after := #[{ on := 9, ground := Go.Ground.data }, { on := 9, ground := Go.Ground.chain }], guard := none }) (v := ?_) rfl (by kernel_rfl) (by kernel_rfl) (by kernel_rfl) (fun _ _ _ h => h) (Or.inl ⟨by rfl, ?_⟩) hHeld ?_
              rotate_left
              · intro w hSw
                try dsimp only at hSw
                go_simp
                try (with_reducible rfl)
              simp only [Act.put, List.setIfInBounds_toArray, List.set_cons_zero, List.set_cons_succ]
              refine wpAnyH_take (i := 11) (oi := { dst := some 75, op := Go.Op.move (Go.Operand.tmp 4), type := 26, pos := "laws.go:534", after := #[{ on := 10, ground := Go.Ground.guard }], guard := some (10, true) }) (v := undef) rfl (by kernel_rfl) (by kernel_rfl) (by kernel_rfl) (fun _ _ _ h => h) (Or.inr ⟨by rfl, rfl⟩) hHeld ?_
              simp only [Act.put, List.setIfInBounds_toArray, List.set_cons_zero, List.set_cons_succ]
              refine wpAnyH_take (i := 12) (oi := { dst := some 76, op := Go.Op.move (Go.Operand.tmp 3), type := 24, pos := "laws.go:534", after := #[{ on := 10, ground := Go.Ground.guard }], guard := some (10, true) }) (v := undef) rfl (by kernel_rfl) (by kernel_rfl) (by kernel_rfl) (fun _ _ _ h => h) (Or.inr ⟨by rfl, rfl⟩) hHeld ?_
              simp only [Act.put, List.setIfInBounds_toArray, List.set_cons_zero, List.set_cons_succ]
              refine wpAnyH_take (i := 13) (oi := { dst := some 77, op := Go.Op.move (Go.Operand.tmp 8), type := 3, pos := "laws.go:534", after := #[{ on := 10, ground := Go.Ground.guard }], guard := some (10, true) }) (v := undef) rfl (by kernel_rfl) (by kernel_rfl) (by kernel_rfl) (fun _ _ _ h => h) (Or.inr ⟨by rfl, rfl⟩) hHeld ?_
              simp only [Act.put, List.setIfInBounds_toArray, List.set_cons_zero, List.set_cons_succ]
              refine wpAnyH_take (i := 14) (oi := { dst := some 78, op := Go.Op.indexAddr 24 (Go.Operand.tmp 76) (Go.Operand.tmp 77), type := 0, pos := "laws.go:534", after := #[{ on := 12, ground := Go.Ground.data }, { on := 13, ground := Go.Ground.data }, { on := 10, ground := Go.Ground.guard }], guard := some (10, true) }) (v := undef) rfl (by kernel_rfl) (by kernel_rfl) (by kernel_rfl) (fun _ _ _ h => h) (Or.inr ⟨by rfl, rfl⟩) hHeld ?_
              simp only [Act.put, List.setIfInBounds_toArray, List.set_cons_zero, List.set_cons_succ]
              refine wpAnyH_take (i := 15) (oi := { dst := some 79, op := Go.Op.fieldAddr 32 (Go.Operand.tmp 78) 0, type := 0, pos := "laws.go:534", after := #[{ on := 14, ground := Go.Ground.data }, { on := 10, ground := Go.Ground.guard }], guard := some (10, true) }) (v := undef) rfl (by kernel_rfl) (by kernel_rfl) (by kernel_rfl) (fun _ _ _ h => h) (Or.inr ⟨by rfl, rfl⟩) hHeld ?_
              simp only [Act.put, List.setIfInBounds_toArray, List.set_cons_zero, List.set_cons_succ]
              refine wpAnyH_take (i := 16) (oi := { dst := some 80, op := Go.Op.fieldAddr 30 (Go.Operand.tmp 79) 4, type := 0, pos := "laws.go:534", after := #[{ on := 15, ground := Go.Ground.data }, { on := 10, ground := Go.Ground.guard }], guard := some (10, true) }) (v := undef) rfl (by kernel_rfl) (by kernel_rfl) (by kernel_rfl) (fun _ _ _ h => h) (Or.inr ⟨by rfl, rfl⟩) hHeld ?_
              simp only [Act.put, List.setIfInBounds_toArray, List.set_cons_zero, List.set_cons_succ]
              refine wpAnyH_take (i := 17) (oi := { dst := some 81, op := Go.Op.load 3 (Go.Operand.tmp 80), type := 3, pos := "laws.go:534", after := #[{ on := 16, ground := Go.Ground.data }, { on := 10, ground := Go.Ground.guard }], guard := some (10, true) }) (v := undef) rfl (by kernel_rfl) (by kernel_rfl) (by kernel_rfl) (fun _ _ _ h => h) (Or.inr ⟨by rfl, rfl⟩) hHeld ?_
              simp only [Act.put, List.setIfInBounds_toArray, List.set_cons_zero, List.set_cons_succ]
              refine wpAnyH_take (i := 18) (oi := { dst := some 82, op := Go.Op.call { callee := Go.Callee.value (Go.Operand.func 16), args := #[Go.Operand.tmp 75, Go.Operand.tmp 81], argTypes := #[26, 3] }, type := 4, pos := "laws.go:534", after := #[{ on := 11, ground := Go.Ground.data }, { on := 17, ground := Go.Ground.data }, { on := 10, ground := Go.Ground.chain }, { on := 10, ground := Go.Ground.guard }], guard := some (10, true) }) (v := undef) rfl (by kernel_rfl) (by kernel_rfl) (by kernel_rfl) (fun _ _ _ h => h) (Or.inr ⟨by rfl, rfl⟩) hHeld ?_
              simp only [Act.put, List.setIfInBounds_toArray, List.set_cons_zero, List.set_cons_succ]
              refine wpAnyH_take (i := 19) (oi := { dst := some 83, op := Go.Op.unOp Go.UnOp.not 4 (Go.Operand.tmp 82), type := 4, pos := "laws.go:534", after := #[{ on := 18, ground := Go.Ground.data }, { on := 10, ground := Go.Ground.guard }], guard := some (10, true) }) (v := undef) rfl (by kernel_rfl) (by kernel_rfl) (by kernel_rfl) (fun _ _ _ h => h) (Or.inr ⟨by rfl, rfl⟩) hHeld ?_
              simp only [Act.put, List.setIfInBounds_toArray, List.set_cons_zero, List.set_cons_succ]
              refine wpAnyH_take (i := 20) (oi := { dst := some 84, op := Go.Op.pick (Go.Operand.tmp 74) (Go.Operand.tmp 83) (Go.Operand.const (Go.Value.bool false)), type := 4, pos := "laws.go:534", after := #[{ on := 10, ground := Go.Ground.data }, { on := 19, ground := Go.Ground.data }], guard := none }) (v := ?_) rfl (by kernel_rfl) (by kernel_rfl) (by kernel_rfl) (fun _ _ _ h => h) (Or.inl ⟨by rfl, ?_⟩) hHeld ?_
              rotate_left
              · intro w hSw
                try dsimp only at hSw
                go_simp
                try (with_reducible rfl)
              simp only [Act.put, List.setIfInBounds_toArray, List.set_cons_zero, List.set_cons_succ]
              refine wpAnyH_done (by kernel_rfl) ?_ _
              go_wp2_with fail
              have HS9 : Hid (EvS w0 g1 (some ⟨b, o, none⟩) X q Z) := HSd.out.below HG1.out
              clear HSd HS0 HSB hHeld
              go_roundw
              case rel => exact ⟨k + 1, by omega, by go_num, HS9⟩
              case measure => simp [intOf]; omega
            · have hvz : v' ∈ Z := HHz.out (by trivial)
              have HVZ : Hid (v' ∈ Z) := hvz
              clear hvz
              refine wp_region_held_drew (S := (fun W : World => (W.cell? ⟨b, o + k * 6, none⟩ = some (Value.int .i64 h) ∧ W.cell? ⟨b, o + k * 6 + 1, none⟩ = some (Value.int .i64 r) ∧ W.cell? ⟨b, o + k * 6 + 2, none⟩ = some (Value.int .i64 s) ∧ W.cell? ⟨b, o + k * 6 + 3, none⟩ = some (Value.string i) ∧ W.cell? ⟨b, o + k * 6 + 4, none⟩ = some (Value.int .i64 v) ∧ W.cell? ⟨b, o + k * 6 + 5, none⟩ = some (Value.string g)) ∧ (W.cell? ⟨b, o + n * 6, none⟩ = some (Value.int .i64 h') ∧ W.cell? ⟨b, o + n * 6 + 1, none⟩ = some (Value.int .i64 r') ∧ W.cell? ⟨b, o + n * 6 + 2, none⟩ = some (Value.int .i64 s') ∧ W.cell? ⟨b, o + n * 6 + 3, none⟩ = some (Value.string i') ∧ W.cell? ⟨b, o + n * 6 + 4, none⟩ = some (Value.int .i64 v') ∧ W.cell? ⟨b, o + n * 6 + 5, none⟩ = some (Value.string g')))) (by kernel_rfl) ?_ (fun hHeld => ?_)
              · exact HS0.out
              generalize wr.drew = wd at *
              refine wpAnyH_take (i := 0) (oi := { dst := some 64, op := Go.Op.move (Go.Operand.tmp 3), type := 24, pos := "laws.go:534", after := #[], guard := none }) (v := ?_) rfl (by kernel_rfl) (by kernel_rfl) (by kernel_rfl) (fun _ _ _ h => h) (Or.inl ⟨by rfl, ?_⟩) hHeld ?_
              rotate_left
              · intro w hSw
                try dsimp only at hSw
                go_simp
                try (with_reducible rfl)
              simp only [Act.put, List.setIfInBounds_toArray, List.set_cons_zero, List.set_cons_succ]
              refine wpAnyH_take (i := 1) (oi := { dst := some 65, op := Go.Op.move (Go.Operand.tmp 9), type := 3, pos := "laws.go:534", after := #[], guard := none }) (v := ?_) rfl (by kernel_rfl) (by kernel_rfl) (by kernel_rfl) (fun _ _ _ h => h) (Or.inl ⟨by rfl, ?_⟩) hHeld ?_
              rotate_left
              · intro w hSw
                try dsimp only at hSw
                go_simp
                try (with_reducible rfl)
              simp only [Act.put, List.setIfInBounds_toArray, List.set_cons_zero, List.set_cons_succ]
              refine wpAnyH_take (i := 2) (oi := { dst := some 66, op := Go.Op.indexAddr 24 (Go.Operand.tmp 64) (Go.Operand.tmp 65), type := 0, pos := "laws.go:534", after := #[{ on := 0, ground := Go.Ground.data }, { on := 1, ground := Go.Ground.data }], guard := none }) (v := ?_) rfl (by kernel_rfl) (by kernel_rfl) (by kernel_rfl) (fun _ _ _ h => h) (Or.inl ⟨by rfl, ?_⟩) hHeld ?_
              rotate_left
              · intro w hSw
                try dsimp only at hSw
                go_simp
                try (with_reducible rfl)
              simp only [Act.put, List.setIfInBounds_toArray, List.set_cons_zero, List.set_cons_succ]
              refine wpAnyH_take (i := 3) (oi := { dst := some 67, op := Go.Op.load 32 (Go.Operand.tmp 66), type := 32, pos := "laws.go:534", after := #[{ on := 2, ground := Go.Ground.data }], guard := none }) (v := ?_) rfl (by kernel_rfl) (by kernel_rfl) (by kernel_rfl) (fun _ _ _ h => h) (Or.inl ⟨by rfl, ?_⟩) hHeld ?_
              rotate_left
              · intro w hSw
                try dsimp only at hSw
                go_simp
                try (with_reducible rfl)
              simp only [Act.put, List.setIfInBounds_toArray, List.set_cons_zero, List.set_cons_succ]
              refine wpAnyH_take (i := 4) (oi := { dst := some 68, op := Go.Op.move (Go.Operand.tmp 3), type := 24, pos := "laws.go:534", after := #[], guard := none }) (v := ?_) rfl (by kernel_rfl) (by kernel_rfl) (by kernel_rfl) (fun _ _ _ h => h) (Or.inl ⟨by rfl, ?_⟩) hHeld ?_
              rotate_left
              · intro w hSw
                try dsimp only at hSw
                go_simp
                try (with_reducible rfl)
              simp only [Act.put, List.setIfInBounds_toArray, List.set_cons_zero, List.set_cons_succ]
              refine wpAnyH_take (i := 5) (oi := { dst := some 69, op := Go.Op.move (Go.Operand.tmp 8), type := 3, pos := "laws.go:534", after := #[], guard := none }) (v := ?_) rfl (by kernel_rfl) (by kernel_rfl) (by kernel_rfl) (fun _ _ _ h => h) (Or.inl ⟨by rfl, ?_⟩) hHeld ?_
              rotate_left
              · intro w hSw
                try dsimp only at hSw
                go_simp
                try (with_reducible rfl)
              simp only [Act.put, List.setIfInBounds_toArray, List.set_cons_zero, List.set_cons_succ]
              refine wpAnyH_take (i := 6) (oi := { dst := some 70, op := Go.Op.indexAddr 24 (Go.Operand.tmp 68) (Go.Operand.tmp 69), type := 0, pos := "laws.go:534", after := #[{ on := 4, ground := Go.Ground.data }, { on := 5, ground := Go.Ground.data }], guard := none }) (v := ?_) rfl (by kernel_rfl) (by kernel_rfl) (by kernel_rfl) (fun _ _ _ h => h) (Or.inl ⟨by rfl, ?_⟩) hHeld ?_
              rotate_left
              · intro w hSw
                try dsimp only at hSw
                go_simp
                try (with_reducible rfl)
              simp only [Act.put, List.setIfInBounds_toArray, List.set_cons_zero, List.set_cons_succ]
              refine wpAnyH_take (i := 7) (oi := { dst := some 71, op := Go.Op.load 32 (Go.Operand.tmp 70), type := 32, pos := "laws.go:534", after := #[{ on := 6, ground := Go.Ground.data }], guard := none }) (v := ?_) rfl (by kernel_rfl) (by kernel_rfl) (by kernel_rfl) (fun _ _ _ h => h) (Or.inl ⟨by rfl, ?_⟩) hHeld ?_
              rotate_left
              · intro w hSw
                try dsimp only at hSw
                go_simp
                try (with_reducible rfl)
              simp only [Act.put, List.setIfInBounds_toArray, List.set_cons_zero, List.set_cons_succ]
              refine wpAnyH_take (i := 8) (oi := { dst := some 72, op := Go.Op.build 34 #[(0, Go.Operand.tmp 67), (1, Go.Operand.tmp 71)], type := 34, pos := "laws.go:534", after := #[{ on := 3, ground := Go.Ground.data }, { on := 7, ground := Go.Ground.data }], guard := none }) (v := ?_) rfl (by kernel_rfl) (by kernel_rfl) (by kernel_rfl) (fun _ _ _ h => h) (Or.inl ⟨by rfl, ?_⟩) hHeld ?_
              rotate_left
              · intro w hSw
                try dsimp only at hSw
                go_simp
                try (with_reducible rfl)
              simp only [Act.put, List.setIfInBounds_toArray, List.set_cons_zero, List.set_cons_succ]
              refine wpAnyH_ready (rs := [9]) (by kernel_rfl) (by decide) ?_
              refine AllReadyH.cons (o := { dst := some 73, op := Go.Op.call { callee := Go.Callee.value (Go.Operand.func 14), args := #[Go.Operand.tmp 72], argTypes := #[34] }, type := 4, pos := "laws.go:534", after := #[{ on := 8, ground := Go.Ground.data }], guard := none }) rfl (fun K hK => ?_) AllReadyH.nil
              go_simp
              refine (kE _).mono ?_
              rintro ee g1 ⟨rfl, d1⟩
              have HG1 : Hid (Below wd.heap.size wd g1) := d1
              refine hK.out _ _ (HSB.out _ HG1.out) (fun hHeld => ?_)
              clear hK K
              try simp only [Act.put, List.setIfInBounds_toArray, List.set_cons_zero, List.set_cons_succ]
              refine wpAnyH_take (i := 10) (oi := { dst := some 74, op := Go.Op.move (Go.Operand.tmp 73), type := 4, pos := "laws.go:534", after := #[{ on := 9, ground := Go.Ground.data }, { on := 9, ground := Go.Ground.chain }], guard := none }) (v := ?_) rfl (by kernel_rfl) (by kernel_rfl) (by kernel_rfl) (fun _ _ _ h => h) (Or.inl ⟨by rfl, ?_⟩) hHeld ?_
              rotate_left
              · intro w hSw
                try dsimp only at hSw
                go_simp
                try (with_reducible rfl)
              simp only [Act.put, List.setIfInBounds_toArray, List.set_cons_zero, List.set_cons_succ]
              refine wpAnyH_take (i := 11) (oi := { dst := some 75, op := Go.Op.move (Go.Operand.tmp 4), type := 26, pos := "laws.go:534", after := #[{ on := 10, ground := Go.Ground.guard }], guard := some (10, true) }) (v := ?_) rfl (by kernel_rfl) (by kernel_rfl) (by kernel_rfl) (fun _ _ _ h => h) (Or.inl ⟨by rfl, ?_⟩) hHeld ?_
              rotate_left
              · intro w hSw
                try dsimp only at hSw
                go_simp
                try (with_reducible rfl)
              simp only [Act.put, List.setIfInBounds_toArray, List.set_cons_zero, List.set_cons_succ]
              refine wpAnyH_take (i := 12) (oi := { dst := some 76, op := Go.Op.move (Go.Operand.tmp 3), type := 24, pos := "laws.go:534", after := #[{ on := 10, ground := Go.Ground.guard }], guard := some (10, true) }) (v := ?_) rfl (by kernel_rfl) (by kernel_rfl) (by kernel_rfl) (fun _ _ _ h => h) (Or.inl ⟨by rfl, ?_⟩) hHeld ?_
              rotate_left
              · intro w hSw
                try dsimp only at hSw
                go_simp
                try (with_reducible rfl)
              simp only [Act.put, List.setIfInBounds_toArray, List.set_cons_zero, List.set_cons_succ]
              refine wpAnyH_take (i := 13) (oi := { dst := some 77, op := Go.Op.move (Go.Operand.tmp 8), type := 3, pos := "laws.go:534", after := #[{ on := 10, ground := Go.Ground.guard }], guard := some (10, true) }) (v := ?_) rfl (by kernel_rfl) (by kernel_rfl) (by kernel_rfl) (fun _ _ _ h => h) (Or.inl ⟨by rfl, ?_⟩) hHeld ?_
              rotate_left
              · intro w hSw
                try dsimp only at hSw
                go_simp
                try (with_reducible rfl)
              simp only [Act.put, List.setIfInBounds_toArray, List.set_cons_zero, List.set_cons_succ]
              refine wpAnyH_take (i := 14) (oi := { dst := some 78, op := Go.Op.indexAddr 24 (Go.Operand.tmp 76) (Go.Operand.tmp 77), type := 0, pos := "laws.go:534", after := #[{ on := 12, ground := Go.Ground.data }, { on := 13, ground := Go.Ground.data }, { on := 10, ground := Go.Ground.guard }], guard := some (10, true) }) (v := ?_) rfl (by kernel_rfl) (by kernel_rfl) (by kernel_rfl) (fun _ _ _ h => h) (Or.inl ⟨by rfl, ?_⟩) hHeld ?_
              rotate_left
              · intro w hSw
                try dsimp only at hSw
                go_simp
                try (with_reducible rfl)
              simp only [Act.put, List.setIfInBounds_toArray, List.set_cons_zero, List.set_cons_succ]
              refine wpAnyH_take (i := 15) (oi := { dst := some 79, op := Go.Op.fieldAddr 32 (Go.Operand.tmp 78) 0, type := 0, pos := "laws.go:534", after := #[{ on := 14, ground := Go.Ground.data }, { on := 10, ground := Go.Ground.guard }], guard := some (10, true) }) (v := ?_) rfl (by kernel_rfl) (by kernel_rfl) (by kernel_rfl) (fun _ _ _ h => h) (Or.inl ⟨by rfl, ?_⟩) hHeld ?_
              rotate_left
              · intro w hSw
                try dsimp only at hSw
                go_simp
                try (with_reducible rfl)
              simp only [Act.put, List.setIfInBounds_toArray, List.set_cons_zero, List.set_cons_succ]
              refine wpAnyH_take (i := 16) (oi := { dst := some 80, op := Go.Op.fieldAddr 30 (Go.Operand.tmp 79) 4, type := 0, pos := "laws.go:534", after := #[{ on := 15, ground := Go.Ground.data }, { on := 10, ground := Go.Ground.guard }], guard := some (10, true) }) (v := ?_) rfl (by kernel_rfl) (by kernel_rfl) (by kernel_rfl) (fun _ _ _ h => h) (Or.inl ⟨by rfl, ?_⟩) hHeld ?_
              rotate_left
              · intro w hSw
                try dsimp only at hSw
                go_simp
                try (with_reducible rfl)
              simp only [Act.put, List.setIfInBounds_toArray, List.set_cons_zero, List.set_cons_succ]
              refine wpAnyH_take (i := 17) (oi := { dst := some 81, op := Go.Op.load 3 (Go.Operand.tmp 80), type := 3, pos := "laws.go:534", after := #[{ on := 16, ground := Go.Ground.data }, { on := 10, ground := Go.Ground.guard }], guard := some (10, true) }) (v := ?_) rfl (by kernel_rfl) (by kernel_rfl) (by kernel_rfl) (fun _ _ _ h => h) (Or.inl ⟨by rfl, ?_⟩) hHeld ?_
              rotate_left
              · intro w hSw
                try dsimp only at hSw
                go_simp
                try (with_reducible rfl)
              simp only [Act.put, List.setIfInBounds_toArray, List.set_cons_zero, List.set_cons_succ]
              refine wpAnyH_ready (rs := [18]) (by kernel_rfl) (by decide) ?_
              refine AllReadyH.cons (o := { dst := some 82, op := Go.Op.call { callee := Go.Callee.value (Go.Operand.func 16), args := #[Go.Operand.tmp 75, Go.Operand.tmp 81], argTypes := #[26, 3] }, type := 4, pos := "laws.go:534", after := #[{ on := 11, ground := Go.Ground.data }, { on := 17, ground := Go.Ground.data }, { on := 10, ground := Go.Ground.chain }, { on := 10, ground := Go.Ground.guard }], guard := some (10, true) }) rfl (fun K hK => ?_) AllReadyH.nil
              go_simp
              refine (has_int q Z cq v' _ (HSd.out.below HG1.out).2.1 hZ20 HVZ.out).mono ?_
              rintro ee g2 ⟨rfl, d2⟩
              have HG2 : Hid (Below wd.heap.size wd g2) := HG1.out.trans (d2.mono HG1.out.size)
              refine hK.out _ _ (HSB.out _ HG2.out) (fun hHeld => ?_)
              clear hK K
              try simp only [Act.put, List.setIfInBounds_toArray, List.set_cons_zero, List.set_cons_succ]
              refine wpAnyH_take (i := 19) (oi := { dst := some 83, op := Go.Op.unOp Go.UnOp.not 4 (Go.Operand.tmp 82), type := 4, pos := "laws.go:534", after := #[{ on := 18, ground := Go.Ground.data }, { on := 10, ground := Go.Ground.guard }], guard := some (10, true) }) (v := ?_) rfl (by kernel_rfl) (by kernel_rfl) (by kernel_rfl) (fun _ _ _ h => h) (Or.inl ⟨by rfl, ?_⟩) hHeld ?_
              rotate_left
              · intro w hSw
                try dsimp only at hSw
                go_simp
                try (with_reducible rfl)
              simp only [Act.put, List.setIfInBounds_toArray, List.set_cons_zero, List.set_cons_succ]
              refine wpAnyH_take (i := 20) (oi := { dst := some 84, op := Go.Op.pick (Go.Operand.tmp 74) (Go.Operand.tmp 83) (Go.Operand.const (Go.Value.bool false)), type := 4, pos := "laws.go:534", after := #[{ on := 10, ground := Go.Ground.data }, { on := 19, ground := Go.Ground.data }], guard := none }) (v := ?_) rfl (by kernel_rfl) (by kernel_rfl) (by kernel_rfl) (fun _ _ _ h => h) (Or.inl ⟨by rfl, ?_⟩) hHeld ?_
              rotate_left
              · intro w hSw
                try dsimp only at hSw
                go_simp
                try (with_reducible rfl)
              simp only [Act.put, List.setIfInBounds_toArray, List.set_cons_zero, List.set_cons_succ]
              refine wpAnyH_done (by kernel_rfl) ?_ _
              go_wp2_with fail
              have HS9 : Hid (EvS w0 g2 (some ⟨b, o, none⟩) X q Z) := HSd.out.below HG2.out
              clear HSd HS0 HSB hHeld
              go_roundw
              case rel => exact ⟨k + 1, by omega, by go_num, HS9⟩
              case measure => simp [intOf]; omega
          · have hknz : ¬ (k : Int) < (n : Int) := by omega
            go_wp2_with fail
            go_roundw
            case rel => exact ⟨n + 1, by omega, by go_num, HS1⟩
            case measure => simp [intOf]; omega
      · have hltz : ¬ (n : Int) < (X.length : Int) := by omega
        go_wp2_with fail
        go_meet
        exact HS
  case rest =>
  have HS6 : Hid (EvS w0 _ u X q Z) := hcut
  rename World => w6
  clear HS5 HZH
  go_wp2_with fail
  refine (draw_evid a L cap w6 (code_below HL.out HS6.out.2.2) hlen).mono ?_
  rintro e w7 ⟨ea, eb, rfl, HE, HB7⟩
  have HS7 : Hid (EvS w0 w7 u X q Z) := HS6.out.below HB7.out
  clear HS6 HB7 HE
  have kI := fun W (hT : Tab W) => impl_evok ea eb W hT
  have kJ := fun W (hT : Tab W) => impl_evok eb ea W hT
  have kS := fun W => spec_evok ea eb W
  rw [evB_comm eb ea] at kJ
  generalize evB ea eb = t at *
  obtain ⟨⟨h, r, s, i, v⟩, g⟩ := ea
  obtain ⟨⟨h', r', s', i', v'⟩, g'⟩ := eb
  unfold eV at *
  simp only at kI kJ kS ⊢
  obtain ⟨wa, hwa⟩ : ∃ W, w7.alloc (.cells [.int .i64 h, .int .i64 r, .int .i64 s, .string i, .int .i64 v, .string g, .int .i64 h', .int .i64 r', .int .i64 s', .string i', .int .i64 v', .string g'].toArray 34) = W := ⟨_, rfl⟩
  have HX8 : Hid (Blk wa w7.heap.size [.int .i64 h, .int .i64 r, .int .i64 s, .string i, .int .i64 v, .string g, .int .i64 h', .int .i64 r', .int .i64 s', .string i', .int .i64 v', .string g'] 34) := by rw [← hwa]; exact blk_new w7 _ _
  have HS8 : Hid (EvS w0 wa u X q Z) := by rw [← hwa]; exact HS7.out.below (below_one _ _)
  clear HS7
  go_wp2_with fail
  clear hwa
  have hw7 : w7.heap.size < wa.drew.heap.size := HX8.out.lt
  have HSd : Hid (EvS w0 wa.drew u X q Z) := HS8.out.below (Below.refl _ _).drew
  have HS0 : Hid ((fun W : World => (W.cell? ⟨w7.heap.size, 0, none⟩ = some (Value.int .i64 h) ∧ W.cell? ⟨w7.heap.size, 1, none⟩ = some (Value.int .i64 r) ∧ W.cell? ⟨w7.heap.size, 2, none⟩ = some (Value.int .i64 s) ∧ W.cell? ⟨w7.heap.size, 3, none⟩ = some (Value.string i) ∧ W.cell? ⟨w7.heap.size, 4, none⟩ = some (Value.int .i64 v) ∧ W.cell? ⟨w7.heap.size, 5, none⟩ = some (Value.string g) ∧ W.cell? ⟨w7.heap.size, 6, none⟩ = some (Value.int .i64 h') ∧ W.cell? ⟨w7.heap.size, 7, none⟩ = some (Value.int .i64 r') ∧ W.cell? ⟨w7.heap.size, 8, none⟩ = some (Value.int .i64 s') ∧ W.cell? ⟨w7.heap.size, 9, none⟩ = some (Value.string i') ∧ W.cell? ⟨w7.heap.size, 10, none⟩ = some (Value.int .i64 v') ∧ W.cell? ⟨w7.heap.size, 11, none⟩ = some (Value.string g'))) wa.drew) := ⟨HX8.out.cell 0 rfl, HX8.out.cell 1 rfl, HX8.out.cell 2 rfl, HX8.out.cell 3 rfl, HX8.out.cell 4 rfl, HX8.out.cell 5 rfl, HX8.out.cell 6 rfl, HX8.out.cell 7 rfl, HX8.out.cell 8 rfl, HX8.out.cell 9 rfl, HX8.out.cell 10 rfl, HX8.out.cell 11 rfl⟩
  have HSB : Hid (∀ W, Below wa.drew.heap.size wa.drew W → (fun W : World => (W.cell? ⟨w7.heap.size, 0, none⟩ = some (Value.int .i64 h) ∧ W.cell? ⟨w7.heap.size, 1, none⟩ = some (Value.int .i64 r) ∧ W.cell? ⟨w7.heap.size, 2, none⟩ = some (Value.int .i64 s) ∧ W.cell? ⟨w7.heap.size, 3, none⟩ = some (Value.string i) ∧ W.cell? ⟨w7.heap.size, 4, none⟩ = some (Value.int .i64 v) ∧ W.cell? ⟨w7.heap.size, 5, none⟩ = some (Value.string g) ∧ W.cell? ⟨w7.heap.size, 6, none⟩ = some (Value.int .i64 h') ∧ W.cell? ⟨w7.heap.size, 7, none⟩ = some (Value.int .i64 r') ∧ W.cell? ⟨w7.heap.size, 8, none⟩ = some (Value.int .i64 s') ∧ W.cell? ⟨w7.heap.size, 9, none⟩ = some (Value.string i') ∧ W.cell? ⟨w7.heap.size, 10, none⟩ = some (Value.int .i64 v') ∧ W.cell? ⟨w7.heap.size, 11, none⟩ = some (Value.string g'))) W) := fun W hb => ⟨(hb.cell (p := ⟨w7.heap.size, 0, none⟩) hw7).trans HS0.out.1, (hb.cell (p := ⟨w7.heap.size, 1, none⟩) hw7).trans HS0.out.2.1, (hb.cell (p := ⟨w7.heap.size, 2, none⟩) hw7).trans HS0.out.2.2.1, (hb.cell (p := ⟨w7.heap.size, 3, none⟩) hw7).trans HS0.out.2.2.2.1, (hb.cell (p := ⟨w7.heap.size, 4, none⟩) hw7).trans HS0.out.2.2.2.2.1, (hb.cell (p := ⟨w7.heap.size, 5, none⟩) hw7).trans HS0.out.2.2.2.2.2.1, (hb.cell (p := ⟨w7.heap.size, 6, none⟩) hw7).trans HS0.out.2.2.2.2.2.2.1, (hb.cell (p := ⟨w7.heap.size, 7, none⟩) hw7).trans HS0.out.2.2.2.2.2.2.2.1, (hb.cell (p := ⟨w7.heap.size, 8, none⟩) hw7).trans HS0.out.2.2.2.2.2.2.2.2.1, (hb.cell (p := ⟨w7.heap.size, 9, none⟩) hw7).trans HS0.out.2.2.2.2.2.2.2.2.2.1, (hb.cell (p := ⟨w7.heap.size, 10, none⟩) hw7).trans HS0.out.2.2.2.2.2.2.2.2.2.2.1, (hb.cell (p := ⟨w7.heap.size, 11, none⟩) hw7).trans HS0.out.2.2.2.2.2.2.2.2.2.2.2⟩
  have hTd : Hid (Tab wa.drew) := HT.out.below HSd.out.2.2 HT.out.pos
  clear HX8 HS8
  cases t
  · refine wp_region_held_drew (S := (fun W : World => (W.cell? ⟨w7.heap.size, 0, none⟩ = some (Value.int .i64 h) ∧ W.cell? ⟨w7.heap.size, 1, none⟩ = some (Value.int .i64 r) ∧ W.cell? ⟨w7.heap.size, 2, none⟩ = some (Value.int .i64 s) ∧ W.cell? ⟨w7.heap.size, 3, none⟩ = some (Value.string i) ∧ W.cell? ⟨w7.heap.size, 4, none⟩ = some (Value.int .i64 v) ∧ W.cell? ⟨w7.heap.size, 5, none⟩ = some (Value.string g) ∧ W.cell? ⟨w7.heap.size, 6, none⟩ = some (Value.int .i64 h') ∧ W.cell? ⟨w7.heap.size, 7, none⟩ = some (Value.int .i64 r') ∧ W.cell? ⟨w7.heap.size, 8, none⟩ = some (Value.int .i64 s') ∧ W.cell? ⟨w7.heap.size, 9, none⟩ = some (Value.string i') ∧ W.cell? ⟨w7.heap.size, 10, none⟩ = some (Value.int .i64 v') ∧ W.cell? ⟨w7.heap.size, 11, none⟩ = some (Value.string g')))) (by kernel_rfl) ?_ (fun hHeld => ?_)
    · exact HS0.out
    generalize wa.drew = wd at *
    refine wpAnyH_take (i := 0) (oi := { dst := some 87, op := Go.Op.load 34 (Go.Operand.tmp 10), type := 34, pos := "laws.go:540", after := #[], guard := none }) (v := ?_) rfl (by kernel_rfl) (by kernel_rfl) (by kernel_rfl) (fun _ _ _ h => h) (Or.inl ⟨by rfl, ?_⟩) hHeld ?_
    rotate_left
    · intro w hSw
      try dsimp only at hSw
      go_simp
      try (with_reducible rfl)
    simp only [Act.put, List.setIfInBounds_toArray, List.set_cons_zero, List.set_cons_succ]
    refine wpAnyH_take (i := 2) (oi := { dst := some 89, op := Go.Op.load 34 (Go.Operand.tmp 10), type := 34, pos := "laws.go:540", after := #[], guard := none }) (v := ?_) rfl (by kernel_rfl) (by kernel_rfl) (by kernel_rfl) (fun _ _ _ h => h) (Or.inl ⟨by rfl, ?_⟩) hHeld ?_
    rotate_left
    · intro w hSw
      try dsimp only at hSw
      go_simp
      try (with_reducible rfl)
    simp only [Act.put, List.setIfInBounds_toArray, List.set_cons_zero, List.set_cons_succ]
    refine wpAnyH_ready (rs := [1]) (by kernel_rfl) (by decide) ?_
    refine AllReadyH.cons (o := { dst := some 88, op := Go.Op.call { callee := Go.Callee.value (Go.Operand.func 18), args := #[Go.Operand.tmp 87], argTypes := #[34] }, type := 4, pos := "laws.go:540", after := #[{ on := 0, ground := Go.Ground.data }], guard := none }) rfl (fun K hK => ?_) AllReadyH.nil
    go_simp
    refine (kI _ hTd.out).mono ?_
    rintro ee g1 ⟨rfl, d1⟩
    have HG1 : Hid (Below wd.heap.size wd g1) := d1
    refine hK.out _ _ (HSB.out _ HG1.out) (fun hHeld => ?_)
    clear hK K
    try simp only [Act.put, List.setIfInBounds_toArray, List.set_cons_zero, List.set_cons_succ]
    refine wpAnyH_ready (rs := [3]) (by kernel_rfl) (by decide) ?_
    refine AllReadyH.cons (o := { dst := some 90, op := Go.Op.call { callee := Go.Callee.value (Go.Operand.func 14), args := #[Go.Operand.tmp 89], argTypes := #[34] }, type := 4, pos := "laws.go:540", after := #[{ on := 2, ground := Go.Ground.data }, { on := 1, ground := Go.Ground.chain }], guard := none }) rfl (fun K hK => ?_) AllReadyH.nil
    go_simp
    refine (kS _).mono ?_
    rintro ee g2 ⟨rfl, d2⟩
    have HG2 : Hid (Below wd.heap.size wd g2) := HG1.out.trans (d2.mono HG1.out.size)
    refine hK.out _ _ (HSB.out _ HG2.out) (fun hHeld => ?_)
    clear hK K
    try simp only [Act.put, List.setIfInBounds_toArray, List.set_cons_zero, List.set_cons_succ]
    refine wpAnyH_take (i := 4) (oi := { dst := some 91, op := Go.Op.binOp Go.BinOp.eql 4 (Go.Operand.tmp 88) (Go.Operand.tmp 90) 4, type := 4, pos := "laws.go:540", after := #[{ on := 1, ground := Go.Ground.data }, { on := 3, ground := Go.Ground.data }], guard := none }) (v := ?_) rfl (by kernel_rfl) (by kernel_rfl) (by kernel_rfl) (fun _ _ _ h => h) (Or.inl ⟨by rfl, ?_⟩) hHeld ?_
    rotate_left
    · intro w hSw
      try dsimp only at hSw
      go_simp
      try (with_reducible rfl)
    simp only [Act.put, List.setIfInBounds_toArray, List.set_cons_zero, List.set_cons_succ]
    refine wpAnyH_take (i := 5) (oi := { dst := some 92, op := Go.Op.move (Go.Operand.tmp 91), type := 4, pos := "laws.go:540", after := #[{ on := 4, ground := Go.Ground.data }, { on := 3, ground := Go.Ground.chain }], guard := none }) (v := ?_) rfl (by kernel_rfl) (by kernel_rfl) (by kernel_rfl) (fun _ _ _ h => h) (Or.inl ⟨by rfl, ?_⟩) hHeld ?_
    rotate_left
    · intro w hSw
      try dsimp only at hSw
      go_simp
      try (with_reducible rfl)
    simp only [Act.put, List.setIfInBounds_toArray, List.set_cons_zero, List.set_cons_succ]
    refine wpAnyH_take (i := 6) (oi := { dst := some 93, op := Go.Op.load 34 (Go.Operand.tmp 10), type := 34, pos := "laws.go:540", after := #[{ on := 5, ground := Go.Ground.guard }], guard := some (5, true) }) (v := ?_) rfl (by kernel_rfl) (by kernel_rfl) (by kernel_rfl) (fun _ _ _ h => h) (Or.inl ⟨by rfl, ?_⟩) hHeld ?_
    rotate_left
    · intro w hSw
      try dsimp only at hSw
      go_simp
      try (with_reducible rfl)
    simp only [Act.put, List.setIfInBounds_toArray, List.set_cons_zero, List.set_cons_succ]
    refine wpAnyH_take (i := 8) (oi := { dst := some 95, op := Go.Op.fieldAddr 34 (Go.Operand.tmp 10) 1, type := 0, pos := "laws.go:540", after := #[{ on := 5, ground := Go.Ground.guard }], guard := some (5, true) }) (v := ?_) rfl (by kernel_rfl) (by kernel_rfl) (by kernel_rfl) (fun _ _ _ h => h) (Or.inl ⟨by rfl, ?_⟩) hHeld ?_
    rotate_left
    · intro w hSw
      try dsimp only at hSw
      go_simp
      try (with_reducible rfl)
    simp only [Act.put, List.setIfInBounds_toArray, List.set_cons_zero, List.set_cons_succ]
    refine wpAnyH_take (i := 9) (oi := { dst := some 96, op := Go.Op.load 32 (Go.Operand.tmp 95), type := 32, pos := "laws.go:540", after := #[{ on := 8, ground := Go.Ground.data }, { on := 5, ground := Go.Ground.guard }], guard := some (5, true) }) (v := ?_) rfl (by kernel_rfl) (by kernel_rfl) (by kernel_rfl) (fun _ _ _ h => h) (Or.inl ⟨by rfl, ?_⟩) hHeld ?_
    rotate_left
    · intro w hSw
      try dsimp only at hSw
      go_simp
      try (with_reducible rfl)
    simp only [Act.put, List.setIfInBounds_toArray, List.set_cons_zero, List.set_cons_succ]
    refine wpAnyH_take (i := 10) (oi := { dst := some 97, op := Go.Op.fieldAddr 34 (Go.Operand.tmp 10) 0, type := 0, pos := "laws.go:540", after := #[{ on := 5, ground := Go.Ground.guard }], guard := some (5, true) }) (v := ?_) rfl (by kernel_rfl) (by kernel_rfl) (by kernel_rfl) (fun _ _ _ h => h) (Or.inl ⟨by rfl, ?_⟩) hHeld ?_
    rotate_left
    · intro w hSw
      try dsimp only at hSw
      go_simp
      try (with_reducible rfl)
    simp only [Act.put, List.setIfInBounds_toArray, List.set_cons_zero, List.set_cons_succ]
    refine wpAnyH_take (i := 11) (oi := { dst := some 98, op := Go.Op.load 32 (Go.Operand.tmp 97), type := 32, pos := "laws.go:540", after := #[{ on := 10, ground := Go.Ground.data }, { on := 5, ground := Go.Ground.guard }], guard := some (5, true) }) (v := ?_) rfl (by kernel_rfl) (by kernel_rfl) (by kernel_rfl) (fun _ _ _ h => h) (Or.inl ⟨by rfl, ?_⟩) hHeld ?_
    rotate_left
    · intro w hSw
      try dsimp only at hSw
      go_simp
      try (with_reducible rfl)
    simp only [Act.put, List.setIfInBounds_toArray, List.set_cons_zero, List.set_cons_succ]
    refine wpAnyH_take (i := 12) (oi := { dst := some 99, op := Go.Op.build 34 #[(0, Go.Operand.tmp 96), (1, Go.Operand.tmp 98)], type := 34, pos := "laws.go:540", after := #[{ on := 9, ground := Go.Ground.data }, { on := 11, ground := Go.Ground.data }, { on := 5, ground := Go.Ground.guard }], guard := some (5, true) }) (v := ?_) rfl (by kernel_rfl) (by kernel_rfl) (by kernel_rfl) (fun _ _ _ h => h) (Or.inl ⟨by rfl, ?_⟩) hHeld ?_
    rotate_left
    · intro w hSw
      try dsimp only at hSw
      go_simp
      try (with_reducible rfl)
    simp only [Act.put, List.setIfInBounds_toArray, List.set_cons_zero, List.set_cons_succ]
    refine wpAnyH_ready (rs := [7]) (by kernel_rfl) (by decide) ?_
    refine AllReadyH.cons (o := { dst := some 94, op := Go.Op.call { callee := Go.Callee.value (Go.Operand.func 18), args := #[Go.Operand.tmp 93], argTypes := #[34] }, type := 4, pos := "laws.go:540", after := #[{ on := 6, ground := Go.Ground.data }, { on := 5, ground := Go.Ground.chain }, { on := 5, ground := Go.Ground.guard }], guard := some (5, true) }) rfl (fun K hK => ?_) AllReadyH.nil
    go_simp
    refine (kI _ (hTd.out.below HG2.out hTd.out.pos)).mono ?_
    rintro ee g3 ⟨rfl, d3⟩
    have HG3 : Hid (Below wd.heap.size wd g3) := HG2.out.trans (d3.mono HG2.out.size)
    refine hK.out _ _ (HSB.out _ HG3.out) (fun hHeld => ?_)
    clear hK K
    try simp only [Act.put, List.setIfInBounds_toArray, List.set_cons_zero, List.set_cons_succ]
    refine wpAnyH_ready (rs := [13]) (by kernel_rfl) (by decide) ?_
    refine AllReadyH.cons (o := { dst := some 100, op := Go.Op.call { callee := Go.Callee.value (Go.Operand.func 18), args := #[Go.Operand.tmp 99], argTypes := #[34] }, type := 4, pos := "laws.go:540", after := #[{ on := 12, ground := Go.Ground.data }, { on := 7, ground := Go.Ground.chain }, { on := 5, ground := Go.Ground.guard }], guard := some (5, true) }) rfl (fun K hK => ?_) AllReadyH.nil
    go_simp
    refine (kJ _ (hTd.out.below HG3.out hTd.out.pos)).mono ?_
    rintro ee g4 ⟨rfl, d4⟩
    have HG4 : Hid (Below wd.heap.size wd g4) := HG3.out.trans (d4.mono HG3.out.size)
    refine hK.out _ _ (HSB.out _ HG4.out) (fun hHeld => ?_)
    clear hK K
    try simp only [Act.put, List.setIfInBounds_toArray, List.set_cons_zero, List.set_cons_succ]
    refine wpAnyH_take (i := 14) (oi := { dst := some 101, op := Go.Op.binOp Go.BinOp.eql 4 (Go.Operand.tmp 94) (Go.Operand.tmp 100) 4, type := 4, pos := "laws.go:540", after := #[{ on := 7, ground := Go.Ground.data }, { on := 13, ground := Go.Ground.data }, { on := 5, ground := Go.Ground.guard }], guard := some (5, true) }) (v := ?_) rfl (by kernel_rfl) (by kernel_rfl) (by kernel_rfl) (fun _ _ _ h => h) (Or.inl ⟨by rfl, ?_⟩) hHeld ?_
    rotate_left
    · intro w hSw
      try dsimp only at hSw
      go_simp
      try (with_reducible rfl)
    simp only [Act.put, List.setIfInBounds_toArray, List.set_cons_zero, List.set_cons_succ]
    refine wpAnyH_take (i := 15) (oi := { dst := some 102, op := Go.Op.pick (Go.Operand.tmp 92) (Go.Operand.tmp 101) (Go.Operand.const (Go.Value.bool false)), type := 4, pos := "laws.go:540", after := #[{ on := 5, ground := Go.Ground.data }, { on := 14, ground := Go.Ground.data }], guard := none }) (v := ?_) rfl (by kernel_rfl) (by kernel_rfl) (by kernel_rfl) (fun _ _ _ h => h) (Or.inl ⟨by rfl, ?_⟩) hHeld ?_
    rotate_left
    · intro w hSw
      try dsimp only at hSw
      go_simp
      try (with_reducible rfl)
    simp only [Act.put, List.setIfInBounds_toArray, List.set_cons_zero, List.set_cons_succ]
    refine wpAnyH_take (i := 16) (oi := { dst := some 2, op := Go.Op.assign (Go.Operand.tmp 102), type := 4, pos := "laws.go:540", after := #[{ on := 15, ground := Go.Ground.data }, { on := 13, ground := Go.Ground.chain }, { on := 0, ground := Go.Ground.phase }, { on := 1, ground := Go.Ground.phase }, { on := 2, ground := Go.Ground.phase }, { on := 3, ground := Go.Ground.phase }, { on := 4, ground := Go.Ground.phase }, { on := 5, ground := Go.Ground.phase }, { on := 6, ground := Go.Ground.phase }, { on := 7, ground := Go.Ground.phase }, { on := 8, ground := Go.Ground.phase }, { on := 9, ground := Go.Ground.phase }, { on := 10, ground := Go.Ground.phase }, { on := 11, ground := Go.Ground.phase }, { on := 12, ground := Go.Ground.phase }, { on := 13, ground := Go.Ground.phase }, { on := 14, ground := Go.Ground.phase }, { on := 15, ground := Go.Ground.phase }], guard := none }) (v := ?_) rfl (by kernel_rfl) (by kernel_rfl) (by kernel_rfl) (fun _ _ _ h => h) (Or.inl ⟨by rfl, ?_⟩) hHeld ?_
    rotate_left
    · intro w hSw
      try dsimp only at hSw
      go_simp
      try (with_reducible rfl)
    simp only [Act.put, List.setIfInBounds_toArray, List.set_cons_zero, List.set_cons_succ]
    refine wpAnyH_done (by kernel_rfl) ?_ _
    go_wp2_with fail
    go_ret
    exact ⟨rfl, (HSd.out.below HG4.out).2.2⟩
  · refine wp_region_held_drew (S := (fun W : World => (W.cell? ⟨w7.heap.size, 0, none⟩ = some (Value.int .i64 h) ∧ W.cell? ⟨w7.heap.size, 1, none⟩ = some (Value.int .i64 r) ∧ W.cell? ⟨w7.heap.size, 2, none⟩ = some (Value.int .i64 s) ∧ W.cell? ⟨w7.heap.size, 3, none⟩ = some (Value.string i) ∧ W.cell? ⟨w7.heap.size, 4, none⟩ = some (Value.int .i64 v) ∧ W.cell? ⟨w7.heap.size, 5, none⟩ = some (Value.string g) ∧ W.cell? ⟨w7.heap.size, 6, none⟩ = some (Value.int .i64 h') ∧ W.cell? ⟨w7.heap.size, 7, none⟩ = some (Value.int .i64 r') ∧ W.cell? ⟨w7.heap.size, 8, none⟩ = some (Value.int .i64 s') ∧ W.cell? ⟨w7.heap.size, 9, none⟩ = some (Value.string i') ∧ W.cell? ⟨w7.heap.size, 10, none⟩ = some (Value.int .i64 v') ∧ W.cell? ⟨w7.heap.size, 11, none⟩ = some (Value.string g')))) (by kernel_rfl) ?_ (fun hHeld => ?_)
    · exact HS0.out
    generalize wa.drew = wd at *
    refine wpAnyH_take (i := 0) (oi := { dst := some 87, op := Go.Op.load 34 (Go.Operand.tmp 10), type := 34, pos := "laws.go:540", after := #[], guard := none }) (v := ?_) rfl (by kernel_rfl) (by kernel_rfl) (by kernel_rfl) (fun _ _ _ h => h) (Or.inl ⟨by rfl, ?_⟩) hHeld ?_
    rotate_left
    · intro w hSw
      try dsimp only at hSw
      go_simp
      try (with_reducible rfl)
    simp only [Act.put, List.setIfInBounds_toArray, List.set_cons_zero, List.set_cons_succ]
    refine wpAnyH_take (i := 2) (oi := { dst := some 89, op := Go.Op.load 34 (Go.Operand.tmp 10), type := 34, pos := "laws.go:540", after := #[], guard := none }) (v := ?_) rfl (by kernel_rfl) (by kernel_rfl) (by kernel_rfl) (fun _ _ _ h => h) (Or.inl ⟨by rfl, ?_⟩) hHeld ?_
    rotate_left
    · intro w hSw
      try dsimp only at hSw
      go_simp
      try (with_reducible rfl)
    simp only [Act.put, List.setIfInBounds_toArray, List.set_cons_zero, List.set_cons_succ]
    refine wpAnyH_ready (rs := [1]) (by kernel_rfl) (by decide) ?_
    refine AllReadyH.cons (o := { dst := some 88, op := Go.Op.call { callee := Go.Callee.value (Go.Operand.func 18), args := #[Go.Operand.tmp 87], argTypes := #[34] }, type := 4, pos := "laws.go:540", after := #[{ on := 0, ground := Go.Ground.data }], guard := none }) rfl (fun K hK => ?_) AllReadyH.nil
    go_simp
    refine (kI _ hTd.out).mono ?_
    rintro ee g1 ⟨rfl, d1⟩
    have HG1 : Hid (Below wd.heap.size wd g1) := d1
    refine hK.out _ _ (HSB.out _ HG1.out) (fun hHeld => ?_)
    clear hK K
    try simp only [Act.put, List.setIfInBounds_toArray, List.set_cons_zero, List.set_cons_succ]
    refine wpAnyH_ready (rs := [3]) (by kernel_rfl) (by decide) ?_
    refine AllReadyH.cons (o := { dst := some 90, op := Go.Op.call { callee := Go.Callee.value (Go.Operand.func 14), args := #[Go.Operand.tmp 89], argTypes := #[34] }, type := 4, pos := "laws.go:540", after := #[{ on := 2, ground := Go.Ground.data }, { on := 1, ground := Go.Ground.chain }], guard := none }) rfl (fun K hK => ?_) AllReadyH.nil
    go_simp
    refine (kS _).mono ?_
    rintro ee g2 ⟨rfl, d2⟩
    have HG2 : Hid (Below wd.heap.size wd g2) := HG1.out.trans (d2.mono HG1.out.size)
    refine hK.out _ _ (HSB.out _ HG2.out) (fun hHeld => ?_)
    clear hK K
    try simp only [Act.put, List.setIfInBounds_toArray, List.set_cons_zero, List.set_cons_succ]
    refine wpAnyH_take (i := 4) (oi := { dst := some 91, op := Go.Op.binOp Go.BinOp.eql 4 (Go.Operand.tmp 88) (Go.Operand.tmp 90) 4, type := 4, pos := "laws.go:540", after := #[{ on := 1, ground := Go.Ground.data }, { on := 3, ground := Go.Ground.data }], guard := none }) (v := ?_) rfl (by kernel_rfl) (by kernel_rfl) (by kernel_rfl) (fun _ _ _ h => h) (Or.inl ⟨by rfl, ?_⟩) hHeld ?_
    rotate_left
    · intro w hSw
      try dsimp only at hSw
      go_simp
      try (with_reducible rfl)
    simp only [Act.put, List.setIfInBounds_toArray, List.set_cons_zero, List.set_cons_succ]
    refine wpAnyH_take (i := 5) (oi := { dst := some 92, op := Go.Op.move (Go.Operand.tmp 91), type := 4, pos := "laws.go:540", after := #[{ on := 4, ground := Go.Ground.data }, { on := 3, ground := Go.Ground.chain }], guard := none }) (v := ?_) rfl (by kernel_rfl) (by kernel_rfl) (by kernel_rfl) (fun _ _ _ h => h) (Or.inl ⟨by rfl, ?_⟩) hHeld ?_
    rotate_left
    · intro w hSw
      try dsimp only at hSw
      go_simp
      try (with_reducible rfl)
    simp only [Act.put, List.setIfInBounds_toArray, List.set_cons_zero, List.set_cons_succ]
    refine wpAnyH_take (i := 6) (oi := { dst := some 93, op := Go.Op.load 34 (Go.Operand.tmp 10), type := 34, pos := "laws.go:540", after := #[{ on := 5, ground := Go.Ground.guard }], guard := some (5, true) }) (v := ?_) rfl (by kernel_rfl) (by kernel_rfl) (by kernel_rfl) (fun _ _ _ h => h) (Or.inl ⟨by rfl, ?_⟩) hHeld ?_
    rotate_left
    · intro w hSw
      try dsimp only at hSw
      go_simp
      try (with_reducible rfl)
    simp only [Act.put, List.setIfInBounds_toArray, List.set_cons_zero, List.set_cons_succ]
    refine wpAnyH_take (i := 8) (oi := { dst := some 95, op := Go.Op.fieldAddr 34 (Go.Operand.tmp 10) 1, type := 0, pos := "laws.go:540", after := #[{ on := 5, ground := Go.Ground.guard }], guard := some (5, true) }) (v := ?_) rfl (by kernel_rfl) (by kernel_rfl) (by kernel_rfl) (fun _ _ _ h => h) (Or.inl ⟨by rfl, ?_⟩) hHeld ?_
    rotate_left
    · intro w hSw
      try dsimp only at hSw
      go_simp
      try (with_reducible rfl)
    simp only [Act.put, List.setIfInBounds_toArray, List.set_cons_zero, List.set_cons_succ]
    refine wpAnyH_take (i := 9) (oi := { dst := some 96, op := Go.Op.load 32 (Go.Operand.tmp 95), type := 32, pos := "laws.go:540", after := #[{ on := 8, ground := Go.Ground.data }, { on := 5, ground := Go.Ground.guard }], guard := some (5, true) }) (v := ?_) rfl (by kernel_rfl) (by kernel_rfl) (by kernel_rfl) (fun _ _ _ h => h) (Or.inl ⟨by rfl, ?_⟩) hHeld ?_
    rotate_left
    · intro w hSw
      try dsimp only at hSw
      go_simp
      try (with_reducible rfl)
    simp only [Act.put, List.setIfInBounds_toArray, List.set_cons_zero, List.set_cons_succ]
    refine wpAnyH_take (i := 10) (oi := { dst := some 97, op := Go.Op.fieldAddr 34 (Go.Operand.tmp 10) 0, type := 0, pos := "laws.go:540", after := #[{ on := 5, ground := Go.Ground.guard }], guard := some (5, true) }) (v := ?_) rfl (by kernel_rfl) (by kernel_rfl) (by kernel_rfl) (fun _ _ _ h => h) (Or.inl ⟨by rfl, ?_⟩) hHeld ?_
    rotate_left
    · intro w hSw
      try dsimp only at hSw
      go_simp
      try (with_reducible rfl)
    simp only [Act.put, List.setIfInBounds_toArray, List.set_cons_zero, List.set_cons_succ]
    refine wpAnyH_take (i := 11) (oi := { dst := some 98, op := Go.Op.load 32 (Go.Operand.tmp 97), type := 32, pos := "laws.go:540", after := #[{ on := 10, ground := Go.Ground.data }, { on := 5, ground := Go.Ground.guard }], guard := some (5, true) }) (v := ?_) rfl (by kernel_rfl) (by kernel_rfl) (by kernel_rfl) (fun _ _ _ h => h) (Or.inl ⟨by rfl, ?_⟩) hHeld ?_
    rotate_left
    · intro w hSw
      try dsimp only at hSw
      go_simp
      try (with_reducible rfl)
    simp only [Act.put, List.setIfInBounds_toArray, List.set_cons_zero, List.set_cons_succ]
    refine wpAnyH_take (i := 12) (oi := { dst := some 99, op := Go.Op.build 34 #[(0, Go.Operand.tmp 96), (1, Go.Operand.tmp 98)], type := 34, pos := "laws.go:540", after := #[{ on := 9, ground := Go.Ground.data }, { on := 11, ground := Go.Ground.data }, { on := 5, ground := Go.Ground.guard }], guard := some (5, true) }) (v := ?_) rfl (by kernel_rfl) (by kernel_rfl) (by kernel_rfl) (fun _ _ _ h => h) (Or.inl ⟨by rfl, ?_⟩) hHeld ?_
    rotate_left
    · intro w hSw
      try dsimp only at hSw
      go_simp
      try (with_reducible rfl)
    simp only [Act.put, List.setIfInBounds_toArray, List.set_cons_zero, List.set_cons_succ]
    refine wpAnyH_ready (rs := [7]) (by kernel_rfl) (by decide) ?_
    refine AllReadyH.cons (o := { dst := some 94, op := Go.Op.call { callee := Go.Callee.value (Go.Operand.func 18), args := #[Go.Operand.tmp 93], argTypes := #[34] }, type := 4, pos := "laws.go:540", after := #[{ on := 6, ground := Go.Ground.data }, { on := 5, ground := Go.Ground.chain }, { on := 5, ground := Go.Ground.guard }], guard := some (5, true) }) rfl (fun K hK => ?_) AllReadyH.nil
    go_simp
    refine (kI _ (hTd.out.below HG2.out hTd.out.pos)).mono ?_
    rintro ee g3 ⟨rfl, d3⟩
    have HG3 : Hid (Below wd.heap.size wd g3) := HG2.out.trans (d3.mono HG2.out.size)
    refine hK.out _ _ (HSB.out _ HG3.out) (fun hHeld => ?_)
    clear hK K
    try simp only [Act.put, List.setIfInBounds_toArray, List.set_cons_zero, List.set_cons_succ]
    refine wpAnyH_ready (rs := [13]) (by kernel_rfl) (by decide) ?_
    refine AllReadyH.cons (o := { dst := some 100, op := Go.Op.call { callee := Go.Callee.value (Go.Operand.func 18), args := #[Go.Operand.tmp 99], argTypes := #[34] }, type := 4, pos := "laws.go:540", after := #[{ on := 12, ground := Go.Ground.data }, { on := 7, ground := Go.Ground.chain }, { on := 5, ground := Go.Ground.guard }], guard := some (5, true) }) rfl (fun K hK => ?_) AllReadyH.nil
    go_simp
    refine (kJ _ (hTd.out.below HG3.out hTd.out.pos)).mono ?_
    rintro ee g4 ⟨rfl, d4⟩
    have HG4 : Hid (Below wd.heap.size wd g4) := HG3.out.trans (d4.mono HG3.out.size)
    refine hK.out _ _ (HSB.out _ HG4.out) (fun hHeld => ?_)
    clear hK K
    try simp only [Act.put, List.setIfInBounds_toArray, List.set_cons_zero, List.set_cons_succ]
    refine wpAnyH_take (i := 14) (oi := { dst := some 101, op := Go.Op.binOp Go.BinOp.eql 4 (Go.Operand.tmp 94) (Go.Operand.tmp 100) 4, type := 4, pos := "laws.go:540", after := #[{ on := 7, ground := Go.Ground.data }, { on := 13, ground := Go.Ground.data }, { on := 5, ground := Go.Ground.guard }], guard := some (5, true) }) (v := ?_) rfl (by kernel_rfl) (by kernel_rfl) (by kernel_rfl) (fun _ _ _ h => h) (Or.inl ⟨by rfl, ?_⟩) hHeld ?_
    rotate_left
    · intro w hSw
      try dsimp only at hSw
      go_simp
      try (with_reducible rfl)
    simp only [Act.put, List.setIfInBounds_toArray, List.set_cons_zero, List.set_cons_succ]
    refine wpAnyH_take (i := 15) (oi := { dst := some 102, op := Go.Op.pick (Go.Operand.tmp 92) (Go.Operand.tmp 101) (Go.Operand.const (Go.Value.bool false)), type := 4, pos := "laws.go:540", after := #[{ on := 5, ground := Go.Ground.data }, { on := 14, ground := Go.Ground.data }], guard := none }) (v := ?_) rfl (by kernel_rfl) (by kernel_rfl) (by kernel_rfl) (fun _ _ _ h => h) (Or.inl ⟨by rfl, ?_⟩) hHeld ?_
    rotate_left
    · intro w hSw
      try dsimp only at hSw
      go_simp
      try (with_reducible rfl)
    simp only [Act.put, List.setIfInBounds_toArray, List.set_cons_zero, List.set_cons_succ]
    refine wpAnyH_take (i := 16) (oi := { dst := some 2, op := Go.Op.assign (Go.Operand.tmp 102), type := 4, pos := "laws.go:540", after := #[{ on := 15, ground := Go.Ground.data }, { on := 13, ground := Go.Ground.chain }, { on := 0, ground := Go.Ground.phase }, { on := 1, ground := Go.Ground.phase }, { on := 2, ground := Go.Ground.phase }, { on := 3, ground := Go.Ground.phase }, { on := 4, ground := Go.Ground.phase }, { on := 5, ground := Go.Ground.phase }, { on := 6, ground := Go.Ground.phase }, { on := 7, ground := Go.Ground.phase }, { on := 8, ground := Go.Ground.phase }, { on := 9, ground := Go.Ground.phase }, { on := 10, ground := Go.Ground.phase }, { on := 11, ground := Go.Ground.phase }, { on := 12, ground := Go.Ground.phase }, { on := 13, ground := Go.Ground.phase }, { on := 14, ground := Go.Ground.phase }, { on := 15, ground := Go.Ground.phase }], guard := none }) (v := ?_) rfl (by kernel_rfl) (by kernel_rfl) (by kernel_rfl) (fun _ _ _ h => h) (Or.inl ⟨by rfl, ?_⟩) hHeld ?_
    rotate_left
    · intro w hSw
      try dsimp only at hSw
      go_simp
      try (with_reducible rfl)
    simp only [Act.put, List.setIfInBounds_toArray, List.set_cons_zero, List.set_cons_succ]
    refine wpAnyH_done (by kernel_rfl) ?_ _
    go_wp2_with fail
    go_ret
    exact ⟨rfl, (HSd.out.below HG4.out).2.2⟩
end Go.Proofs.YtclajbadeclbdaaDoor
