/- The walk of the exact law of ReadCommit: it answers true, old memory stays. Conditions: what a machine can hold. -/
import Derived.Test.YtbpmjejmeaifbaaLm
import Derived.Test.YtbpmjejmeaifbaaCi
namespace Go.Proofs.Ytbpmjejmeaifbaa
open Go.RowKit
open Num
set_option linter.unusedVariables false
/-- A commit that was read: its row lies from B on, below C. -/
def Rdd (W : World) (B C : Nat) (x : Ct) (a : Option Addr) : Prop := SO W a x.l ∧ (∀ b o, a = some ⟨b, o, none⟩ → b < C) ∧ Mk W B a x.l.length
theorem OwnS.rdd {W : World} {B : Nat} {x : Ct} {q : Value} (h : OwnS W B q x.l) : ∃ a cap, q = .slice a x.l.length cap ∧ Rdd W B W.heap.size x a := by
  have h' := h
  obtain ⟨a, cap, rfl, h1, _, _⟩ := OwnS.o h
  refine ⟨a, cap, rfl, h1, fun b o e => ?_, ?_⟩
  · subst e
    exact (h.lt b rfl).2
  · rcases h.2 with ⟨e, hn⟩ | ⟨g, cap', cur, e, hB, hg, hnc, hcm, _⟩
    · exact .inl hn
    · simp only [Value.slice.injEq] at e
      obtain ⟨rfl, _, rfl⟩ := e
      refine .inr ⟨g, rfl, hB, (Array.getElem?_eq_some_iff.1 hg).1, fun j hj => ?_⟩
      rw [Nat.zero_add]
      refine ⟨?_, h'.frozenAt j⟩
      rw [h'.cellAt j (by omega), List.getElem?_eq_getElem (by rw [sgs_length]; exact hj)]; rfl
theorem cQ_eq (x : Ct) (a : Option Addr) (cap : Nat) : cQ x (.slice a x.l.length cap) = cV x a cap := rfl
theorem rdC_len (s : ByteArray) : (rdC s).1.l.length ≤ 1048576 := by
  rcases rdC_cases s with ⟨x, h, h1, _⟩ | ⟨h, _⟩
  · rw [h]; have := ((cOk_iff x).1 h1).2.1; show x.l.length ≤ _; omega
  · rw [h]; show 0 ≤ _; omega
set_option maxHeartbeats 1600000 in
theorem w_readC (s : ByteArray) (w : World) (hs : s.size ≤ 9223372036854775807) :
    Calls Try.prog 4 #[.string s] w fun e w' => e = .returned (.bool true) ∧ Below w.heap.size w w' := by
  by_cases hbig : (1048576 : Int) < (s.size : Int)
  · go_enter Try.func4, Try.ntmps4
    go_wp2
    go_ret
    exact ⟨rfl, Below.refl _ _⟩
  have hs20 : s.size ≤ 1048576 := by omega
  have kA := fun W => spec_readC s W hs20
  have kB := fun W => impl_readC s W hs20
  have hlen := rdC_len s
  have HO : Hid (∀ (W : World) (B : Nat) (q : Value), OwnS W B q (rdC s).1.l → ∃ a cap, q = .slice a (rdC s).1.l.length cap ∧ Rdd W B W.heap.size (rdC s).1 a) := fun W B q h => OwnS.rdd h
  have kE := fun (u v : Option Addr) (c d : Nat) W (h : SO W u (rdC s).1.l) (h' : SO W v (rdC s).1.l) (hq : (rdC s).1.l.length ≤ 1099511627776) => eq_com (rdC s).1 u v c d W h h' hq
  have kM := fun (u : Option Addr) (c B : Nat) W (h : Mk W B u (rdC s).1.l.length) (hq : (rdC s).1.l.length ≤ 1048576) (hB : B ≤ W.heap.size) => mark_com (rdC s).1 u c 1 B W h hq (by decide) hB
  have kH := fun (u : Option Addr) (c : Nat) W (h : SO W u (marks 1 (rdC s).1.l.length)) (hq : (rdC s).1.l.length ≤ 1048576) => held_com (rdC s).1 u c 1 W h hq (by decide)
  generalize (rdC s).1 = x at *
  generalize (rdC s).2 = t at *
  have htt : (t == t) = true := by simp
  have hl40 : x.l.length ≤ 1099511627776 := by omega
  have HRS : Hid (∀ W B C (a : Option Addr), Rdd W B C x a → SO W a x.l) := fun W B C a h => h.1
  have HRC : Hid (∀ W B C (a : Option Addr), Rdd W B C x a → ∀ b o, a = some ⟨b, o, none⟩ → b < C) := fun W B C a h => h.2.1
  have HRM : Hid (∀ W B C (a : Option Addr), Rdd W B C x a → Mk W B a x.l.length) := fun W B C a h => h.2.2
  obtain ⟨R, hR⟩ : ∃ R : Int, ((1 + 2 * x.l.length : Nat) : Int) = R := ⟨_, rfl⟩
  have hR0 : ¬ R < 0 := by omega
  rw [hR] at kM kH
  have k1 : ((1 : Nat) : Int) = 1 := rfl
  rw [k1] at kM kH
  clear k1 hR hs20
  obtain ⟨h, rr, i, l⟩ := x
  unfold cV cQ at *
  simp only at kA kB kE kM kH HO HRS HRC HRM hlen hl40 ⊢
  go_enter Try.func4, Try.ntmps4
  go_wp2_with fail
  refine (kA _).mono ?_
  rintro e w1 ⟨q1, rfl, h1, b1⟩
  obtain ⟨a1, c1, rfl, hr1⟩ := HO.out _ _ _ h1
  have HS1 : Hid (SO (w1.alloc (.cells #[.int .i64 h, .int .i64 rr, .string i, .slice a1 l.length c1] 29)) a1 l) := (HRS.out _ _ _ _ hr1).below (below_one _ _)
  have HA1 : Hid (∀ b o, a1 = some ⟨b, o, none⟩ → b < w1.heap.size) := HRC.out _ _ _ _ hr1
  have HB1 : Hid (Below w.heap.size w (w1.alloc (.cells #[.int .i64 h, .int .i64 rr, .string i, .slice a1 l.length c1] 29))) := b1.alloc b1.size _
  have HX1 : Hid (Blk (w1.alloc (.cells [.int .i64 h, .int .i64 rr, .string i, .slice a1 l.length c1].toArray 29)) w1.heap.size [.int .i64 h, .int .i64 rr, .string i, .slice a1 l.length c1] 29) := blk_new w1 _ _
  have hw1 : w1.heap.size < (w1.alloc (.cells #[.int .i64 h, .int .i64 rr, .string i, .slice a1 l.length c1] 29)).heap.size := by simp
  clear h1 b1 hr1 kA
  go_wp2_with fail
  generalize w1.alloc (.cells #[.int .i64 h, .int .i64 rr, .string i, .slice a1 l.length c1] 29) = w2 at *
  refine (kB _).mono ?_
  rintro e w3 ⟨q3, rfl, h3, b3⟩
  obtain ⟨a3, c3, rfl, hr3⟩ := HO.out _ _ _ h3
  have HS3 : Hid (SO (w3.alloc (.cells #[.int .i64 h, .int .i64 rr, .string i, .slice a3 l.length c3] 29)) a3 l) := (HRS.out _ _ _ _ hr3).below (below_one _ _)
  have HM3 : Hid (Mk (w3.alloc (.cells #[.int .i64 h, .int .i64 rr, .string i, .slice a3 l.length c3] 29)) w2.heap.size a3 l.length) := (HRM.out _ _ _ _ hr3).below (below_one _ _)
  have HA3 : Hid (∀ b o, a3 = some ⟨b, o, none⟩ → b < w3.heap.size) := HRC.out _ _ _ _ hr3
  have HD3 : Hid (Below w2.heap.size w2 (w3.alloc (.cells #[.int .i64 h, .int .i64 rr, .string i, .slice a3 l.length c3] 29))) := b3.alloc b3.size _
  have HX3 : Hid (Blk (w3.alloc (.cells [.int .i64 h, .int .i64 rr, .string i, .slice a3 l.length c3].toArray 29)) w3.heap.size [.int .i64 h, .int .i64 rr, .string i, .slice a3 l.length c3] 29) := blk_new w3 _ _
  have hw3 : w3.heap.size < (w3.alloc (.cells #[.int .i64 h, .int .i64 rr, .string i, .slice a3 l.length c3] 29)).heap.size := by simp
  have hw23 : w2.heap.size ≤ w3.heap.size := b3.size
  have HS1' : Hid (SO (w3.alloc (.cells #[.int .i64 h, .int .i64 rr, .string i, .slice a3 l.length c3] 29)) a1 l) := HS1.out.below HD3.out
  have HX1' : Hid (Blk (w3.alloc (.cells #[.int .i64 h, .int .i64 rr, .string i, .slice a3 l.length c3] 29)) w1.heap.size [.int .i64 h, .int .i64 rr, .string i, .slice a1 l.length c1] 29) := HX1.out.below HD3.out hw1
  have HB3 : Hid (Below w.heap.size w (w3.alloc (.cells #[.int .i64 h, .int .i64 rr, .string i, .slice a3 l.length c3] 29))) := HB1.out.trans (HD3.out.mono HB1.out.size)
  clear h3 b3 hr3 HS1 HX1 HD3
  have x0 := HX1'.out.cell 0 rfl
  have x1 := HX1'.out.cell 1 rfl
  have x2 := HX1'.out.cell 2 rfl
  have x3 := HX1'.out.cell 3 rfl
  have y0 := HX3.out.cell 0 rfl
  have y1 := HX3.out.cell 1 rfl
  have y2 := HX3.out.cell 2 rfl
  have y3 := HX3.out.cell 3 rfl
  go_wp2_with fail
  generalize w3.alloc (.cells #[.int .i64 h, .int .i64 rr, .string i, .slice a3 l.length c3] 29) = w4 at *
  refine (kE a3 a1 c3 c1 _ HS3.out HS1'.out hl40).mono ?_
  rintro e w5 ⟨rfl, b5⟩
  have HS15 : Hid (SO w5 a1 l) := HS1'.out.below b5
  have HM5 : Hid (Mk w5 w2.heap.size a3 l.length) := HM3.out.below b5
  have HX15 : Hid (Blk w5 w1.heap.size [.int .i64 h, .int .i64 rr, .string i, .slice a1 l.length c1] 29) := HX1'.out.below b5 HX1'.out.lt
  have HX35 : Hid (Blk w5 w3.heap.size [.int .i64 h, .int .i64 rr, .string i, .slice a3 l.length c3] 29) := HX3.out.below b5 HX3.out.lt
  have HB5 : Hid (Below w.heap.size w w5) := HB3.out.trans (b5.mono HB3.out.size)
  have hw45 : w4.heap.size ≤ w5.heap.size := b5.size
  clear x0 x1 x2 x3 y0 y1 y2 y3 b5 HS3 HM3 HS1' HX1' HX3 HB3
  have y0 := HX35.out.cell 0 rfl
  have y1 := HX35.out.cell 1 rfl
  have y2 := HX35.out.cell 2 rfl
  have y3 := HX35.out.cell 3 rfl
  have hB2 : w2.heap.size ≤ w5.heap.size := by omega
  go_wp2_with fail
  refine (kM a3 c3 w2.heap.size _ HM5.out hlen hB2).mono ?_
  rintro e w6 ⟨rfl, hs6, r, hr, hgr⟩
  have hr1 : ∀ j, r = some j → w2.heap.size ≤ j := fun j e => (hr j e).1
  have hr3 : ∀ j, r = some j → j < w3.heap.size := fun j e => HA3.out j 0 (hr j e).2
  have HS16 : Hid (SO w6 a1 l) := HS15.out.far hgr HA1.out (fun j e => by have := hr1 j e; omega)
  have HX16 : Hid (Blk w6 w1.heap.size [.int .i64 h, .int .i64 rr, .string i, .slice a1 l.length c1] 29) := HX15.out.grown hgr (fun e => by have := hr1 _ e; omega)
  have HX36 : Hid (Blk w6 w3.heap.size [.int .i64 h, .int .i64 rr, .string i, .slice a3 l.length c3] 29) := HX35.out.grown hgr (fun e => by have := hr3 _ e; omega)
  have HB6 : Hid (Below w.heap.size w w6) := HB5.out.grown hgr HB5.out.size (fun j e => by have := hr1 j e; have := HB1.out.size; omega)
  have HK6 : Hid (SO w6 a3 (marks 1 l.length)) := hs6
  clear hs6 hr hgr hr1 hr3 y0 y1 y2 y3 HS15 HM5 HX15 HX35 HB5 hB2 hw45 kM
  have y0 := HX36.out.cell 0 rfl
  have y1 := HX36.out.cell 1 rfl
  have y2 := HX36.out.cell 2 rfl
  have y3 := HX36.out.cell 3 rfl
  go_wp2_with fail
  refine (kH a3 c3 _ HK6.out hlen).mono ?_
  rintro e w7 ⟨rfl, b7⟩
  have HS17 : Hid (SO w7 a1 l) := HS16.out.below b7
  have HX17 : Hid (Blk w7 w1.heap.size [.int .i64 h, .int .i64 rr, .string i, .slice a1 l.length c1] 29) := HX16.out.below b7 HX16.out.lt
  have HX37 : Hid (Blk w7 w3.heap.size [.int .i64 h, .int .i64 rr, .string i, .slice a3 l.length c3] 29) := HX36.out.below b7 HX36.out.lt
  have HB7 : Hid (Below w.heap.size w w7) := HB6.out.trans (b7.mono HB6.out.size)
  have HK7 : Hid (SO w7 a3 (marks 1 l.length)) := HK6.out.below b7
  clear b7 y0 y1 y2 y3 HS16 HX16 HX36 HB6 HK6
  go_wp2_with fail
  refine (kB _).mono ?_
  rintro e w8 ⟨q8, rfl, h8, b8⟩
  obtain ⟨a8, c8, rfl, hr8⟩ := HO.out _ _ _ h8
  have HD8 : Hid (Below w7.heap.size w7 (w8.alloc (.cells #[.int .i64 h, .int .i64 rr, .string i, .slice a8 l.length c8] 29))) := b8.alloc b8.size _
  have HS8 : Hid (SO (w8.alloc (.cells #[.int .i64 h, .int .i64 rr, .string i, .slice a8 l.length c8] 29)) a8 l) := (HRS.out _ _ _ _ hr8).below (below_one _ _)
  have HX8 : Hid (Blk (w8.alloc (.cells [.int .i64 h, .int .i64 rr, .string i, .slice a8 l.length c8].toArray 29)) w8.heap.size [.int .i64 h, .int .i64 rr, .string i, .slice a8 l.length c8] 29) := blk_new w8 _ _
  have HS18 : Hid (SO (w8.alloc (.cells #[.int .i64 h, .int .i64 rr, .string i, .slice a8 l.length c8] 29)) a1 l) := HS17.out.below HD8.out
  have HX18 : Hid (Blk (w8.alloc (.cells #[.int .i64 h, .int .i64 rr, .string i, .slice a8 l.length c8] 29)) w1.heap.size [.int .i64 h, .int .i64 rr, .string i, .slice a1 l.length c1] 29) := HX17.out.below HD8.out HX17.out.lt
  have HX38 : Hid (Blk (w8.alloc (.cells #[.int .i64 h, .int .i64 rr, .string i, .slice a8 l.length c8] 29)) w3.heap.size [.int .i64 h, .int .i64 rr, .string i, .slice a3 l.length c3] 29) := HX37.out.below HD8.out HX37.out.lt
  have HB8 : Hid (Below w.heap.size w (w8.alloc (.cells #[.int .i64 h, .int .i64 rr, .string i, .slice a8 l.length c8] 29))) := HB7.out.trans (HD8.out.mono HB7.out.size)
  have HK8 : Hid (SO (w8.alloc (.cells #[.int .i64 h, .int .i64 rr, .string i, .slice a8 l.length c8] 29)) a3 (marks 1 l.length)) := HK7.out.below HD8.out
  clear h8 b8 hr8 HS17 HX17 HX37 HB7 HK7 HD8 kB
  have x0 := HX18.out.cell 0 rfl
  have x1 := HX18.out.cell 1 rfl
  have x2 := HX18.out.cell 2 rfl
  have x3 := HX18.out.cell 3 rfl
  have y0 := HX8.out.cell 0 rfl
  have y1 := HX8.out.cell 1 rfl
  have y2 := HX8.out.cell 2 rfl
  have y3 := HX8.out.cell 3 rfl
  go_wp2_with fail
  generalize w8.alloc (.cells #[.int .i64 h, .int .i64 rr, .string i, .slice a8 l.length c8] 29) = w9 at *
  refine (kE a8 a1 c8 c1 _ HS8.out HS18.out hl40).mono ?_
  rintro e w10 ⟨rfl, b10⟩
  have HX310 : Hid (Blk w10 w3.heap.size [.int .i64 h, .int .i64 rr, .string i, .slice a3 l.length c3] 29) := HX38.out.below b10 HX38.out.lt
  have HB10 : Hid (Below w.heap.size w w10) := HB8.out.trans (b10.mono HB8.out.size)
  have HK10 : Hid (SO w10 a3 (marks 1 l.length)) := HK8.out.below b10
  clear x0 x1 x2 x3 y0 y1 y2 y3 b10 HS8 HS18 HX8 HX18 HX38 HB8 HK8
  have y0 := HX310.out.cell 0 rfl
  have y1 := HX310.out.cell 1 rfl
  have y2 := HX310.out.cell 2 rfl
  have y3 := HX310.out.cell 3 rfl
  go_wp2_with fail
  refine (kH a3 c3 _ HK10.out hlen).mono ?_
  rintro e w11 ⟨rfl, b11⟩
  have HB11 : Hid (Below w.heap.size w w11) := HB10.out.trans (b11.mono HB10.out.size)
  clear b11 y0 y1 y2 y3
  go_wp2
  go_ret
  exact ⟨rfl, HB11.out⟩
end Go.Proofs.Ytbpmjejmeaifbaa
