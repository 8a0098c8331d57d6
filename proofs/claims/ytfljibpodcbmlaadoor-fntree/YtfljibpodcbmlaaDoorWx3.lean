/- The walk of the exact law of TreePath, over whatever the program's own function is proved to answer. -/
import Derived.Test.YtfljibpodcbmlaaDoorWx2
namespace Go.Proofs.YtfljibpodcbmlaaDoor
open Go.RowKit
open Num
set_option linter.unusedVariables false
/-- Texts of an answer: none, or in cells of its own that may be written. -/
def Fr (B : Nat) (w : World) (a : Option Addr) (l : List ByteArray) : Prop := l.length = 0 ∨ ∃ b o, a = some ⟨b, o, none⟩ ∧ B ≤ b ∧ StrAt w b o l ∧ w.there b o l.length
theorem Fr.o {B : Nat} {w : World} {a : Option Addr} {l : List ByteArray} (h : Fr B w a l) : StrO w a l := by
  rcases h with h | ⟨b, o, h1, h2, h3, h4⟩
  · exact .inl h
  · exact .inr ⟨b, o, h1, h3⟩
theorem Fr.below {B : Nat} {w w' : World} {a : Option Addr} {l : List ByteArray} (h : Fr B w a l) (hb : Below w.heap.size w w') : Fr B w' a l := by
  rcases h with h | ⟨b, o, h1, h2, h3, h4⟩
  · exact .inl h
  · exact .inr ⟨b, o, h1, h2, h3.below hb, there_below h4 hb⟩
theorem strAt_other {w w' : World} {b o g : Nat} {l : List ByteArray} (h : StrAt w b o l) (hg : w.grownBy w' (some g)) (hne : b ≠ g) : StrAt w' b o l := fun j hj => by
  have hc := h j hj
  have hlt := World.block_lt_of_cell? w _ hc
  rw [World.cell?_of_block (w := w) (a := ⟨b, o + j, none⟩) (hg.block b hlt (fun e => hne (by injection e)))]
  exact hc
theorem there_other {w w' : World} {b o g n : Nat} (h : w.there b o n) (hg : w.grownBy w' (some g)) (hne : b ≠ g) : w'.there b o n := fun j hj => by
  obtain ⟨h1, h2⟩ := h j hj
  obtain ⟨u, hu⟩ := Option.isSome_iff_exists.1 h1
  have hlt := World.block_lt_of_cell? w _ hu
  have hblk := hg.block b hlt (fun e => hne (by injection e))
  exact ⟨by rw [World.cell?_of_block (w := w) (a := ⟨b, o + j, none⟩) hblk]; exact h1, by rw [World.frozen?_of_block (w := w) (a := ⟨b, o + j, none⟩) hblk]; exact h2⟩
theorem Fr.other {B g : Nat} {w w' : World} {a : Option Addr} {l : List ByteArray} (h : Fr B w a l) (hg : w.grownBy w' (some g)) (hB : g < B) : Fr B w' a l := by
  rcases h with h | ⟨b, o, h1, h2, h3, h4⟩
  · exact .inl h
  · exact .inr ⟨b, o, h1, h2, strAt_other h3 hg (by omega), there_other h4 hg (by omega)⟩
def CPath (T : World → Prop) : Prop := ∀ (b o cap : Nat) (ss : List ByteArray) (i : Int) (W : World), ss.length ≤ 1048576 → ss.length ≤ cap → cap ≤ 9223372036854775807 → StrAt W b o ss → (∀ s ∈ ss, s.size ≤ 1048577) → -9223372036854775808 ≤ i → i ≤ 9223372036854775807 → T W →
  Calls Tryd.prog 14 #[.slice (some ⟨b, o, none⟩) ss.length cap, .int .i64 i] W fun e w' => ∃ a c, e = .returned (.slice a (treeP ss i).length c) ∧ (treeP ss i).length ≤ c ∧ c ≤ 9223372036854775807 ∧ Fr W.heap.size w' a (treeP ss i) ∧ Below W.heap.size W w'
set_option maxHeartbeats 400000 in
theorem mark_zero (a : Option Addr) (cap k : Nat) (hk : k ≤ 1099511627776) (w : World) :
    Calls Tryd.prog 25 #[.slice a 0 cap, .int .i64 (k : Int)] w fun e w' => e = .returned (.int .i64 (k : Int)) ∧ w' = w := by
  go_enter Tryd.func25, Tryd.ntmps25
  go_wp2
  go_loop [1, 5] (fun kk i => kk = .int .i64 (k : Int) ∧ i = .int .i64 0) (fun _ _ => 0)
  case atStart => exact ⟨rfl, rfl⟩
  case round =>
    obtain ⟨rfl, rfl⟩ := hrel
    go_wp2
    go_ret
    exact ⟨rfl, rfl⟩
/-- Marks put into an answer: it holds them then; other rows stay. -/
theorem mark_fr (B : Nat) (a : Option Addr) (cap k : Nat) (l : List ByteArray) (w : World) (hn : l.length ≤ 140737488355328) (hk : 1 ≤ k) (hkn : k + l.length ≤ 1099511627776) (hF : Fr B w a l) :
    Calls Tryd.prog 25 #[.slice a l.length cap, .int .i64 (k : Int)] w fun e w' => e = .returned (.int .i64 ((k + l.length : Nat) : Int)) ∧ Fr B w' a (marks k l.length) ∧ ∃ g, B ≤ g ∧ w.grownBy w' (some g) := by
  rcases hF with h | ⟨b, o, rfl, h2, h3, h4⟩
  · rw [h]
    exact (mark_zero a cap k (by omega) w).mono fun e w' ⟨he, hw⟩ => ⟨he, .inl (by rw [length_marks]), B, Nat.le_refl _, by rw [hw]; exact gr_refl _ _⟩
  · exact (mark_any b o l.length cap k w hn hk hkn h4).mono fun e w' ⟨he, hs, ht, hg⟩ => ⟨he, .inr ⟨b, o, rfl, h2, hs, by rw [length_marks]; exact ht⟩, b, h2, hg⟩
theorem below_gr {B g : Nat} {w0 w w' : World} (h : Below B w0 w) (hg : w.grownBy w' (some g)) (hB : B ≤ g) (hs : B ≤ w.heap.size) : Below B w0 w' :=
  h.grown hg hs (fun k hk => by injection hk; omega)
theorem length_treeP (ss : List ByteArray) (i : Int) : (treeP ss i).length ≤ 40 := by
  unfold treeP
  split
  · simp
  · have := length_pathL ss.length ss i.toNat (Nat.le_refl _) (by omega)
    omega
set_option maxHeartbeats 3200000 in
theorem w_path (T : World → Prop) (c : CPath T) (i : Int) (hi0 : -9223372036854775808 ≤ i) (hi1 : i ≤ 9223372036854775807) (a : Option Addr) (cap : Nat) (ss : List ByteArray) (w : World) (hA : StrO w a ss) (hm : ss.length ≤ 140737488355328) (hs : ∀ s ∈ ss, s.size ≤ 140737488355328) (hT : ∀ W, Below w.heap.size w W → T W) :
    Calls Tryd.prog 7 #[.slice a ss.length cap, .int .i64 i] w fun e w' => e = .returned (.bool true) ∧ Below w.heap.size w w' := by
  have HC : Hid (CPath T) := c
  have HT : Hid (∀ W, Below w.heap.size w W → T W) := hT
  have HA : Hid (StrO w a ss) := hA
  have HCS : Hid (Calls _ _ _ _ _) := sz_any a cap ss 1048576 w hA (by omega) (by omega) hm hs
  clear c hT hA hs
  by_cases hz : szV ss 1048576 < 0
  · go_enter Tryd.func7, Tryd.ntmps7
    go_wp2_with fail
    refine HCS.out.mono ?_
    rintro e w1 ⟨rfl, rfl⟩
    generalize szV ss 1048576 = z at *
    go_wp2
    go_ret
    exact ⟨rfl, Below.refl _ _⟩
  · have hsz := szV_yes hz
    have hl : ss.length ≤ 1048576 := by omega
    have HF : Hid (∀ s ∈ ss, s.size ≤ 1048576) := few_of (by omega)
    have hpl := length_treeP ss i
    clear hsz
    go_enter Tryd.func7, Tryd.ntmps7
    go_wp2_with fail
    refine HCS.out.mono ?_
    rintro e w1 ⟨rfl, rfl⟩
    clear HCS
    generalize szV ss 1048576 = z at *
    go_wp2_with fail
    refine (to_any a cap ss w1 HA.out hl).mono ?_
    rintro e w2 ⟨rfl, ho2, hb2⟩
    go_wp2_with fail
    refine (spec_treePath w1.heap.size 0 ss.length i hi0 hi1 ss w2 (Nat.le_refl _) (by omega) (own_str ho2) (fun s h => Nat.le_trans (HF.out s h) (by decide))).mono ?_
    rintro e w3 ⟨gs, cs, rfl, hos, hb3⟩
    have hb13 := hb2.trans (hb3.mono hb2.size)
    have HW0 : Hid (StrAt w3 gs 0 (treeP ss i)) := own_str hos
    have hgs : gs < w3.heap.size := (hos.lt gs rfl).2
    clear hb2 hb3 ho2 hos
    go_wp2_with fail
    refine (to_any a cap ss w3 (HA.out.below hb13) hl).mono ?_
    rintro e w4 ⟨rfl, ho4, hb4⟩
    have HO4 : Hid (OwnS w4 w3.heap.size w3.heap.size ss.length ss) := ho4
    have hb14 := hb13.trans (hb4.mono hb13.size)
    have hs3 : w1.heap.size ≤ w3.heap.size := hb13.size
    have h34 : w3.heap.size < w4.heap.size := (ho4.lt w3.heap.size rfl).2
    have HW4 : Hid (StrAt w4 gs 0 (treeP ss i)) := HW0.out.below hb4
    clear hb4 ho4 hb13 HW0
    go_wp2_with fail
    refine (HC.out w3.heap.size 0 ss.length ss i w4 hl (Nat.le_refl _) (by omega) (own_str HO4.out) (fun s h => Nat.le_trans (HF.out s h) (by decide)) hi0 hi1 (HT.out _ hb14)).mono ?_
    rintro e w5 ⟨ag, cg, rfl, hg1, hg2, hfr, hb5⟩
    have HG5 : Hid (Fr w4.heap.size w5 ag (treeP ss i)) := hfr
    have HO5 : Hid (OwnS w5 w3.heap.size w3.heap.size ss.length ss) := own_below HO4.out hb5
    have HW5 : Hid (StrAt w5 gs 0 (treeP ss i)) := HW4.out.below hb5
    have hb15 := hb14.trans (hb5.mono hb14.size)
    have hs45 : w4.heap.size ≤ w5.heap.size := hb5.size
    clear hb5 hb14 HO4 hfr HW4
    have hne : ¬ (((1 + ss.length : Nat) : Int)) < 0 := by omega
    have hne2 : ¬ (((1 + (treeP ss i).length : Nat) : Int)) < 0 := by omega
    generalize hP : treeP ss i = P at *
    have HP : Hid (treeP ss i = P) := hP
    clear hP
    go_wp2_with fail
    refine (eq_same _ _ cg cs P w5 HG5.out.o (.inr ⟨gs, 0, rfl, HW5.out⟩) (by omega)).mono ?_
    rintro e w6' ⟨rfl, q, rfl⟩
    have HG6 : Hid (Fr w4.heap.size (w5.drewN q) ag P) := HG5
    have HO6 : Hid (OwnS (w5.drewN q) w3.heap.size w3.heap.size ss.length ss) := HO5
    have HW6 : Hid (StrAt (w5.drewN q) gs 0 P) := HW5
    have hb16 := below_drewN hb15 q
    have hs46 : w4.heap.size ≤ (w5.drewN q).heap.size := hs45
    clear HG5 HO5 HW5 hb15 hs45
    generalize w5.drewN q = w6 at *
    go_wp2_with fail
    refine (to_any a cap ss w6 (HA.out.below hb16) hl).mono ?_
    rintro e w7 ⟨rfl, ho7, hb7⟩
    have HG7 : Hid (Fr w4.heap.size w7 ag P) := HG6.out.below hb7
    have HO7 : Hid (OwnS w7 w3.heap.size w3.heap.size ss.length ss) := own_below HO6.out hb7
    have HX7 : Hid (StrO w7 (some ⟨w6.heap.size, 0, none⟩) ss) := own_o ho7
    have HW7 : Hid (StrAt w7 gs 0 P) := HW6.out.below hb7
    have hb17 := hb16.trans (hb7.mono hb16.size)
    have hs47 : w4.heap.size ≤ w7.heap.size := Nat.le_trans hs46 hb7.size
    clear HG6 HO6 HW6 hb16 hs46 hb7 ho7
    go_wp2_with fail
    refine (eq_same _ _ ss.length ss.length ss w7 (own_o HO7.out) HX7.out (by omega)).mono ?_
    rintro e w8' ⟨rfl, q2, rfl⟩
    have HG8 : Hid (Fr w4.heap.size (w7.drewN q2) ag P) := HG7
    have HO8 : Hid (OwnS (w7.drewN q2) w3.heap.size w3.heap.size ss.length ss) := HO7
    have HW8 : Hid (StrAt (w7.drewN q2) gs 0 P) := HW7
    have hb18 := below_drewN hb17 q2
    have hs48 : w4.heap.size ≤ (w7.drewN q2).heap.size := hs47
    clear HG7 HO7 HW7 hb17 hs47 HX7
    generalize w7.drewN q2 = w8 at *
    go_wp2_with fail
    refine (mark_any w3.heap.size 0 ss.length ss.length 1 w8 (by omega) (by omega) (by omega) (own_there HO8.out)).mono ?_
    rintro e w9 ⟨rfl, _, _, hg9⟩
    have HG9 : Hid (Fr w4.heap.size w9 ag P) := HG8.out.other hg9 h34
    have HW9 : Hid (StrAt w9 gs 0 P) := strAt_other HW8.out hg9 (by omega)
    have hb19 := below_gr hb18 hg9 hs3 hb18.size
    have hs49 : w4.heap.size ≤ w9.heap.size := Nat.le_trans hs48 hg9.size
    clear HG8 HO8 HW8 hb18 hs48 hg9
    go_wp2_with fail
    refine (eq_same _ _ cg cs P w9 HG9.out.o (.inr ⟨gs, 0, rfl, HW9.out⟩) (by omega)).mono ?_
    rintro e w10' ⟨rfl, q3, rfl⟩
    have HG10 : Hid (Fr w4.heap.size (w9.drewN q3) ag P) := HG9
    have HW10 : Hid (StrAt (w9.drewN q3) gs 0 P) := HW9
    have hb110 := below_drewN hb19 q3
    have hs410 : w4.heap.size ≤ (w9.drewN q3).heap.size := hs49
    clear HG9 HW9 hb19 hs49
    generalize w9.drewN q3 = w10 at *
    go_wp2_with fail
    refine (mark_fr w4.heap.size ag cg 1 P w10 (by omega) (by omega) (by omega) HG10.out).mono ?_
    rintro e w11 ⟨rfl, hfr11, g11, hB11, hg11⟩
    have HG11 : Hid (Fr w4.heap.size w11 ag (marks 1 P.length)) := hfr11
    have HW11 : Hid (StrAt w11 gs 0 P) := strAt_other HW10.out hg11 (by omega)
    have hb111 := below_gr hb110 hg11 (by omega) hb110.size
    clear HG10 HW10 hb110 hfr11 hB11 hg11 hs410
    go_wp2_with fail
    refine (held_any ag P.length cg 1 w11 (by omega) (by omega) (by omega) HG11.out.o).mono ?_
    rintro e w12 ⟨rfl, hb12⟩
    have HG12 : Hid (Fr w4.heap.size w12 ag (marks 1 P.length)) := HG11.out.below hb12
    have HW12 : Hid (StrAt w12 gs 0 P) := HW11.out.below hb12
    have hb112 := hb111.trans (hb12.mono hb111.size)
    clear HG11 HW11 hb111 hb12
    have hmm : ((((1 + P.length : Nat) : Int)) != ((1 + P.length : Nat) : Int)) = false := by simp
    go_wp2_with fail
    refine (to_any a cap ss w12 (HA.out.below hb112) hl).mono ?_
    rintro e w13 ⟨rfl, ho13, hb13⟩
    have HG13 : Hid (Fr w4.heap.size w13 ag (marks 1 P.length)) := HG12.out.below hb13
    have HW13 : Hid (StrAt w13 gs 0 P) := HW12.out.below hb13
    have HX13 : Hid (StrAt w13 w12.heap.size 0 ss) := own_str ho13
    have hb113 := hb112.trans (hb13.mono hb112.size)
    clear HG12 HW12 hb112 hb13 ho13
    have HCC : Hid (Calls _ _ _ _ _) := HC.out w12.heap.size 0 ss.length ss i w13 hl (Nat.le_refl _) (by omega) HX13.out (fun s h => Nat.le_trans (HF.out s h) (by decide)) hi0 hi1 (HT.out _ hb113)
    rw [HP.out] at HCC
    go_wp2_with fail
    refine HCC.out.mono ?_
    rintro e w14 ⟨ah, ch, rfl, hh1, hh2, hfh, hb14⟩
    have HG14 : Hid (Fr w4.heap.size w14 ag (marks 1 P.length)) := HG13.out.below hb14
    have HW14 : Hid (StrAt w14 gs 0 P) := HW13.out.below hb14
    have HH14 : Hid (Fr w13.heap.size w14 ah P) := hfh
    have hb114 := hb113.trans (hb14.mono hb113.size)
    clear HG13 HW13 hb113 hb14 hfh HX13 HCC
    go_wp2_with fail
    refine (eq_same _ _ ch cs P w14 HH14.out.o (.inr ⟨gs, 0, rfl, HW14.out⟩) (by omega)).mono ?_
    rintro e w15' ⟨rfl, q4, rfl⟩
    have HG15 : Hid (Fr w4.heap.size (w14.drewN q4) ag (marks 1 P.length)) := HG14
    have hb115 := below_drewN hb114 q4
    clear HG14 HW14 HH14 hb114
    generalize w14.drewN q4 = w15 at *
    go_wp2_with fail
    refine (held_any ag P.length cg 1 w15 (by omega) (by omega) (by omega) HG15.out.o).mono ?_
    rintro e w16 ⟨rfl, hb16⟩
    have hb116 := hb115.trans (hb16.mono hb115.size)
    clear HG15 hb115 hb16
    go_wp2
    go_ret
    exact ⟨rfl, hb116⟩
end Go.Proofs.YtfljibpodcbmlaaDoor
