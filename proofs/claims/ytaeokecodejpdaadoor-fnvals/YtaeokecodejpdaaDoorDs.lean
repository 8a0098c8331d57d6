/- What laws.sameVals (of like rows), laws.at and spec.DrawReadVals answer, as far as FnVals asks; old memory stays. Conditions: a code of at most 2 to the 20 bytes. -/
import Derived.Test.YtaeokecodejpdaaDoorG6
import Derived.Test.YtaeokecodejpdaaDoorG7
namespace Go.Proofs.YtaeokecodejpdaaDoor
open Go.RowKit
open Num
set_option linter.unusedVariables false
set_option maxHeartbeats 800000 in
theorem same_any (a a' : Option Addr) (l : List V) (cap cap' : Nat) (w : World) (hl : VO w a l) (hl' : VO w a' l) (h1 : l.length ≤ 1099511627776) :
    Calls Tryd.prog 8 #[.slice a l.length cap, .slice a' l.length cap'] w fun e w' => e = .returned (.bool true) ∧ Below w.heap.size w w' := by
  have HL : Hid (VO w a l) := hl
  have HL' : Hid (VO w a' l) := hl'
  clear hl hl'
  go_enter Tryd.func8, Tryd.ntmps8
  go_wp2
  go_loopw [5] (fun iv wr => ∃ k : Nat, k ≤ l.length ∧ iv = .int .i64 k ∧ Below w.heap.size w wr) (fun iv _ => l.length - (intOf iv).toNat)
  case atStart => exact ⟨0, Nat.zero_le _, rfl, Below.refl _ _⟩
  case round =>
    obtain ⟨k, hk, rfl, hb⟩ := hrel
    by_cases hlt : k < l.length
    · have hltz : (k : Int) < (l.length : Int) := by omega
      rcases HL.out with h0 | ⟨b, o, rfl, hv0⟩
      · omega
      rcases HL'.out with h0 | ⟨b', o', rfl, hv0'⟩
      · omega
      have hn := bel_some wr
      obtain ⟨vi, hi⟩ : ∃ v, l[k].i = v := ⟨_, rfl⟩
      obtain ⟨vp, hp⟩ : ∃ v, l[k].p = v := ⟨_, rfl⟩
      have c1 := fun p : Bel wr => p.cell ((hv0.below hb) k hlt).1
      have c2 := fun p : Bel wr => p.cell ((hv0.below hb) k hlt).2
      have c3 := fun p : Bel wr => p.cell ((hv0'.below hb) k hlt).1
      have c4 := fun p : Bel wr => p.cell ((hv0'.below hb) k hlt).2
      rw [hi] at c1 c3
      rw [hp] at c2 c4
      clear hv0 hv0' hi hp
      go_wp2_with fail
      refine wp_region_below (by kernel_rfl) (by kernel_rfl) ?_
      repeat (go_big_quiet_step (fail))
      refine wpQuiet_nil ?_
      intro _ hw'
      obtain ⟨pq, hw''⟩ := hw'
      subst hw''
      have hb3 := hb.trans (pq.h.mono hb.size)
      clear c1 c2 c3 c4
      go_wp2
      go_roundw
      case rel => exact ⟨k + 1, by omega, by go_num, hb3⟩
      case measure => simp [intOf]; omega
    · have hltz : ¬ (k : Int) < (l.length : Int) := by omega
      go_wp2
      go_ret
      exact ⟨rfl, hb⟩
set_option maxRecDepth 100000 in
theorem at_any (a : Option Addr) (L : List UInt8) (cap : Nat) (w : World) (hl : CodeAt w w.heap.size a L) (hlen : L.length ≤ 1048576) :
    Calls Tryd.prog 15 #[.slice a L.length cap, .int .i64 0] w fun e w' => ∃ z : Int, e = .returned (.int .i64 z) ∧ 0 ≤ z ∧ z < 256 ∧ w' = w := by
  by_cases h : 0 < L.length
  · obtain ⟨b, off, rfl, _, hc⟩ := hl 0 h
    obtain ⟨c, hcE⟩ : ∃ c, L[0] = c := ⟨_, rfl⟩
    rw [hcE, Nat.add_zero] at hc
    have hb : (c.toNat : Int) < 256 := by have := c.toNat_lt; omega
    have hlt : (0 : Int) < (L.length : Int) := by omega
    clear hl hcE
    go_enter Tryd.func15, Tryd.ntmps15
    go_wp2
    go_ret
    exact ⟨_, rfl, by omega, hb, rfl⟩
  · have hlt : ¬ (0 : Int) < (L.length : Int) := by omega
    have h0 : L.length = 0 := by omega
    clear hl h
    rw [h0]
    go_enter Tryd.func15, Tryd.ntmps15
    go_wp2
    go_ret
    exact ⟨_, rfl, by omega, by omega, rfl⟩
theorem one_size (x : UInt8) : (⟨#[x]⟩ : ByteArray).size = 1 := rfl
set_option maxHeartbeats 1600000 in
theorem draw_read (a : Option Addr) (L : List UInt8) (cap : Nat) (w : World) (hl : CodeAt w w.heap.size a L) (hlen : L.length ≤ 1048576) :
    Calls Tryd.prog 12 #[.slice a L.length cap] w fun e w' => ∃ (s : ByteArray), e = .returned (.string s) ∧ Hid (s.size ≤ 1000) ∧ Hid (Below w.heap.size w w') := by
  have kN := new_any a L cap w hl hlen
  have HD0 : Hid (DS (w.alloc (.cells #[.slice a L.length cap, .int .i64 0, .int .i64 (newF L)] 61)) w.heap.size (w.heap.size + 1)) := ds_new hl hlen _
  have HB0 : Hid (Below w.heap.size w (w.alloc (.cells #[.slice a L.length cap, .int .i64 0, .int .i64 (newF L)] 61))) := (Below.refl _ _).alloc (Nat.le_refl _) _
  have hs0 : (w.alloc (.cells #[.slice a L.length cap, .int .i64 0, .int .i64 (newF L)] 61)).heap.size = w.heap.size + 1 := by simp
  clear hl
  generalize w.alloc (.cells #[.slice a L.length cap, .int .i64 0, .int .i64 (newF L)] 61) = wa at *
  go_enter Tryd.func12, Tryd.ntmps12
  go_wp2_with fail
  refine kN.mono ?_
  rintro e w1 ⟨rfl, rfl⟩
  go_wp2_with fail
  refine (any_d w.heap.size (w.heap.size + 1) w1 HD0.out (by omega)).mono ?_
  rintro e w2 ⟨v, l, rfl, HO2, HDr, HD2, HG2, HNV⟩
  have HB2 : Hid (Below w.heap.size w w2) := HB0.out.grown HG2.out (by omega) (fun k e => by injection e; omega)
  obtain ⟨av, capv, rfl, hvo, _, _⟩ := OwnV.o HO2.out
  have hl8 : l.length ≤ 8 := HDr.out.1
  have hs2 : w.heap.size < w2.heap.size := HD2.out.lt'
  have kS := spec_show av l capv w2 hvo (by omega)
  have hz := showV_size l
  clear HO2 HG2 HD0 HB0 hs0 kN hvo HNV HDr
  generalize showV l = s at *
  go_wp2_with fail
  refine kS.mono ?_
  clear kS
  rintro e w3 ⟨rfl, b3⟩
  have HD3 : Hid (DS w3 w.heap.size (w.heap.size + 1)) := HD2.out.below (b3.mono (by omega))
  have HB3 : Hid (Below w.heap.size w w3) := HB2.out.trans (b3.mono HB2.out.size)
  have HZ : Hid (s.size ≤ 1000) := show s.size ≤ 1000 by omega
  clear b3 HD2 HB2
  go_wp2_with fail
  refine (once_d w.heap.size (w.heap.size + 1) 3 w3 HD3.out).mono ?_
  rintro e w4 ⟨t, rfl, HD4, HG4⟩
  have HB4 : Hid (Below w.heap.size w w4) := HB3.out.grown HG4.out HB3.out.size (fun k e => by injection e; omega)
  clear HD3 HG4 HB3
  rcases t with _ | _
  · go_wp2
    go_ret
    exact ⟨_, rfl, HZ, HB4⟩
  · have kP : Calls Tryd.prog 33 #[.pointer (some ⟨w.heap.size, 0, none⟩), .string s] w4 fun e w' => ∃ (s' : ByteArray), e = .returned (.string s') ∧ Hid (s'.size ≤ 1000) ∧ Hid (w4.grownBy w' (some w.heap.size)) := by
      obtain ⟨a', L', cap', st, h1, h2, h3, h4, h5⟩ := HD4.out
      rcases Nat.eq_zero_or_pos s.size with hs | hs
      · have hse : s = ⟨#[]⟩ := by
          obtain ⟨d⟩ := s
          rw [Array.eq_empty_of_size_eq_zero (show d.size = 0 from hs)]
        have kT := text_any w.heap.size a' L' cap' st 3 w4 h2 h3 h1 (by omega) (by omega)
        have hlt := length_textP L' st 3 (by omega)
        have HT : Hid ((⟨(textP L' st 3).1.toArray⟩ : ByteArray).size ≤ 1000) := by
          show (textP L' st 3).1.toArray.size ≤ 1000
          rw [List.size_toArray]; omega
        clear hlt hs HZ hz
        subst hse
        generalize (⟨(textP L' st 3).1.toArray⟩ : ByteArray) = r at *
        generalize (textP L' st 3).2 = st2 at *
        have HA : Hid (0 = 0) := rfl
        go_enter Tryd.func33, Tryd.ntmps33
        go_wp2_with fail
        refine kT.mono ?_
        rintro e w' ⟨rfl, _, hg⟩
        have HG : Hid (_) := hg
        clear hg
        go_wp2
        go_ret
        exact ⟨_, rfl, HT, HG.out⟩
      · refine (spoil_any w.heap.size a' L' cap' st s w4 h2 h3 h1 hs HZ.out).mono ?_
        rintro e w' ⟨rfl, _, hg⟩
        refine ⟨_, rfl, ?_, hg⟩
        show _ ≤ _
        unfold spoilP
        repeat' split
        all_goals simp only [ByteArray.size_append, ByteArray.size_extract, one_size]
        all_goals omega
    clear HD4
    go_wp2_with fail
    refine kP.mono ?_
    clear kP
    rintro e w5 ⟨s', rfl, hs', hg⟩
    have HB5 : Hid (Below w.heap.size w w5) := HB4.out.grown hg.out HB4.out.size (fun k e => by injection e; omega)
    clear hg HB4
    go_wp2
    go_ret
    exact ⟨_, rfl, hs', HB5⟩
end Go.Proofs.YtaeokecodejpdaaDoor
