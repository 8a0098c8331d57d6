/- What spec.l4Leaves and spec.DrawTreeRoot answer: some row of at most 41 texts of at most 4 bytes, of its own; old memory stays but for the cursor. Conditions: a code of at most 1048576 bytes. -/
import Derived.Test.YtfljibpodcbmlaaDoorDraw
import Derived.Test.YtfljibpodcbmlaaDoorMk4
namespace Go.Proofs.YtfljibpodcbmlaaDoor
open Go.RowKit
open Num
set_option linter.unusedVariables false
def Few (ss : List ByteArray) : Prop := ∀ s ∈ ss, s.size ≤ 4
theorem few_nil : Few [] := fun s hs => by cases hs
theorem Few.snoc {ss : List ByteArray} {x : ByteArray} (h : Few ss) (hx : x.size ≤ 4) : Few (ss ++ [x]) := fun s hs => by
  rcases List.mem_append.1 hs with hs | hs
  · exact h s hs
  · rw [List.mem_singleton.1 hs]; exact hx
theorem own_form {w : World} {B : Nat} {v : Value} {n : Nat} {xs : List Value} (h : w.ownsRow B 9 1 v n xs) (hv : v ≠ .slice none 0 0) : ∃ g cap, v = .slice (some ⟨g, 0, none⟩) n cap := by
  rcases h.2 with ⟨h', _⟩ | ⟨g, cap, cur, h', _⟩
  · exact absurd h' hv
  · exact ⟨g, cap, h'⟩
theorem own_sn {w : World} {B n : Nat} {v : Value} {ss : List ByteArray} {x : ByteArray} (h : w.ownsRow B 9 1 v n (ss.map sv ++ [x].map sv)) : w.ownsRow B 9 1 v n ((ss ++ [x]).map sv) := by
  rw [List.map_append]; exact h
set_option maxHeartbeats 1600000 in
theorem leaves_any (g : Nat) (a : Option Addr) (L : List UInt8) (cap : Nat) (s : St) (w : World) (hc : CurAt w g a L.length cap s) (hl : CodeAt w g a L) (hlen : L.length ≤ 1048576) :
    Calls Tryd.prog 30 #[.pointer (some ⟨g, 0, none⟩)] w fun e w' => ∃ (ss : List ByteArray) (gr c : Nat), e = .returned (.slice (some ⟨gr, 0, none⟩) ss.length c) ∧ ss.length ≤ 41 ∧ Few ss ∧ OwnS w' w.heap.size gr c ss ∧ w.grownBy w' (some g) := by
  have hsz : g < w.heap.size := (Array.getElem?_eq_some_iff.1 hc).1
  obtain ⟨i0, hi, hz0, hz1, hz2⟩ := info9f
  have HC : Hid (CurAt (w.alloc (.cells #[] 9)) g a L.length cap s) := show (w.alloc _).heap[g]? = _ by
    rw [Below.heap_alloc _ _ _ hsz]; exact hc
  have HL : Hid (CodeAt (w.alloc (.cells #[] 9)) g a L) := CodeAt.kept hl (grown_alloc (grown_refl _ _) _)
  have HL0 : Hid (CodeAt w g a L) := hl
  have hown0 : (w.alloc (.cells #[] 9)).ownsRow w.heap.size 9 1 (.slice (some ⟨w.heap.size, 0, none⟩) 0 0) 0 (([] : List ByteArray).map sv) := World.ownsRow_made w #[] 0 (Nat.le_refl _) (by decide) rfl
  have hg0 : w.grownBy (w.alloc (.cells #[] 9)) (some g) := grown_alloc (grown_refl _ _) _
  have hb9 := belowV_bound L s 9 (by omega)
  clear hc hl
  go_enter Tryd.func30, Tryd.ntmps30
  go_wp2_with fail
  refine (below_any g a L cap s 9 _ HC.out HL.out hlen).mono ?_
  rintro e w1 ⟨rfl, hc1, hg1⟩
  have HC1 : Hid (CurAt w1 g a L.length cap (belowN L s 9)) := hc1
  have hown1 := hown0.kept hg1 (Or.inr (by simp [Value.ownBlock]; omega))
  have hgw1 := grown_trans hg0 hg1
  have HL1 : Hid (CodeAt w1 g a L) := CodeAt.kept HL0.out hgw1
  obtain ⟨n, hn⟩ : ∃ n : Nat, belowV L s 9 = (n : Int) := ⟨(belowV L s 9).toNat, by omega⟩
  rw [hn] at hb9 ⊢
  generalize belowN L s 9 = s1 at *
  clear hc1 hg1 hown0 hg0 HC HL hn
  go_wp2
  go_loopw [3, 4] (fun out i wr => ∃ (k : Nat) (ss : List ByteArray) (s' : St), k + ss.length ≤ 8 ∧ i = .int .i64 k ∧ out ≠ .slice none 0 0 ∧ wr.ownsRow w.heap.size 9 1 out ss.length (ss.map sv) ∧ Hid (Few ss) ∧ Hid (CurAt wr g a L.length cap s') ∧ Hid (CodeAt wr g a L) ∧ w.grownBy wr (some g)) (fun _ i _ => (intOf i).toNat)
  case atStart => exact ⟨n, [], s1, by simp; omega, rfl, by simp, hown1, few_nil, HC1, HL1, hgw1⟩
  case round =>
    clear hown1 HC1 HL1 hgw1 hb9
    obtain ⟨k, ss, s', hk, rfl, hnil, hown, HF, HC, HL, hgw⟩ := hrel
    have hsr : w.heap.size ≤ wr.heap.size := hgw.size
    have hne : u3.ownBlock ≠ some g := fun e => by have := (hown.lt g e).1; omega
    cases k with
    | zero =>
      go_wp2_with fail
      refine (once_any g a L cap s' 60 _ HC.out HL.out hlen).mono ?_
      rintro e w2 ⟨rfl, hc2, hg2⟩
      have HC2 : Hid (CurAt w2 g a L.length cap (belowN L s' 60)) := hc2
      have hown2 := hown.kept hg2 (Or.inr hne)
      have hgw2 := grown_trans hgw hg2
      have HL2 : Hid (CodeAt w2 g a L) := CodeAt.kept HL0.out hgw2
      have hs8 : ss.length ≤ 8 := by omega
      clear hc2 hg2 HC HL hgw hown hsr hk
      obtain ⟨gr, cr, rfl⟩ := own_form hown2 hnil
      have HO2 : Hid (OwnS w2 w.heap.size gr cr ss) := hown2
      by_cases hq : (belowV L s' 60 == 0) = true
      · rw [hq]
        generalize belowN L s' 60 = s2 at *
        clear hq hown2
        have hb2 := belowV_bound L s2 2 (by omega)
        go_wp2_with fail
        refine (below_any g a L cap s2 2 _ HC2.out HL2.out hlen).mono ?_
        rintro e w3 ⟨rfl, hc3, hg3⟩
        have HO3 : Hid (OwnS w3 w.heap.size gr cr ss) := HO2.out.kept hg3 (Or.inr hne)
        have hgw3 := grown_trans hgw2 hg3
        obtain ⟨n2, hn2⟩ : ∃ n : Nat, belowV L s2 2 = (n : Int) := ⟨(belowV L s2 2).toNat, by omega⟩
        rw [hn2] at hb2 ⊢
        clear hc3 hg3 HC2 HL2 hgw2 hn2 HO2
        go_wp2
        go_loopw [3] (fun out wr => ∃ (ss : List ByteArray), ss.length ≤ 41 ∧ out ≠ .slice none 0 0 ∧ wr.ownsRow w.heap.size 9 1 out ss.length (ss.map sv) ∧ Hid (Few ss) ∧ w.grownBy wr (some g)) (fun out _ => 41 - lenOf out)
        case atStart => exact ⟨ss, by omega, hnil, HO3.out, HF, hgw3⟩
        case round =>
          clear HO3 HF hgw3 hs8 hnil hne
          obtain ⟨ss, hs41, hnil, hown, HF, hgw⟩ := hrel
          have hsr : w.heap.size ≤ wr.heap.size := hgw.size
          have hne : u3.ownBlock ≠ some g := fun e => by have := (hown.lt g e).1; omega
          obtain ⟨gr, cr, rfl⟩ := own_form hown hnil
          have HO : Hid (OwnS wr w.heap.size gr cr ss) := hown
          by_cases hlt : (ss.length : Int) < 40 + (n2 : Int)
          · have HFX : Hid (Few (ss ++ [⟨#[]⟩])) := HF.out.snoc (by decide)
            have HCC : Hid (_) := one_str wr ⟨#[]⟩
            go_wp2_with (at_builtin; refine wpList_append_own _ rfl _ _ 24 rfl w.heap.size 9 i0 (.string ⟨#[]⟩) 1 16 Tryd.underlying24 hi hz0 hz1 hz2 rfl (by decide) _ _ _ rfl (hown.alloc _) ⟨wr.heap.size, 0, none⟩ 1 1 ([(⟨#[]⟩ : ByteArray)].map sv) rfl rfl HCC (sv_one _) (by unfold maxLen; omega) (by omega) (by simp; omega) ?_)
            intro v' w4 hown' hgrow hnn
            replace hown' := own_sn hown'
            have hgw4 := grown_fresh (grown_trans hgw (grown_alloc (grown_refl wr (some g)) (.cells #[.string ⟨#[]⟩] 9))) hgrow (fun j hj => (hown.lt j hj).1)
            have HO3 : Hid (w4.ownsRow w.heap.size 9 1 v' (ss ++ [(⟨#[]⟩ : ByteArray)]).length ((ss ++ [(⟨#[]⟩ : ByteArray)]).map sv)) := by
              rw [List.length_append]; exact hown'
            obtain ⟨g4, c4, hv4⟩ := own_form HO3.out hnn
            have HL4 : Hid (lenOf v' = ss.length + 1) := by show _ = _; rw [hv4]; simp [lenOf]
            clear hgrow hgw hown' HCC hv4
            go_wp2
            go_roundw
            case rel =>
              have R : ∃ (ss' : List ByteArray), ss'.length ≤ 41 ∧ v' ≠ .slice none 0 0 ∧ w4.ownsRow w.heap.size 9 1 v' ss'.length (ss'.map sv) ∧ Hid (Few ss') ∧ w.grownBy w4 (some g) :=
                ⟨ss ++ [⟨#[]⟩], by simp; omega, hnn, HO3.out, HFX, hgw4⟩
              first | exact R | ((repeat apply Exists.intro); exact ⟨R, rfl⟩)
            case measure =>
              rw [HL4.out]
              show 41 - (ss.length + 1) < 41 - ss.length
              omega
          · go_wp2
            go_ret
            exact ⟨ss, gr, cr, rfl, hs41, HF.out, HO.out, hgw⟩
      · have hq' : (belowV L s' 60 == 0) = false := by simpa using hq
        rw [hq']
        clear hq hq' hown2
        go_wp2
        go_ret
        exact ⟨ss, gr, cr, rfl, by omega, HF.out, HO2.out, hgw2⟩
    | succ k =>
      have hpos : (0 : Int) < ((k + 1 : Nat) : Int) := by omega
      go_wp2_with fail
      refine (text_any g a L cap s' 4 _ HC.out HL.out hlen (by omega) (by omega)).mono ?_
      rintro e w2 ⟨rfl, hc2, hg2⟩
      have hx : (⟨(textP L s' 4).1.toArray⟩ : ByteArray).size ≤ 4 := by
        have := length_textP L s' 4 (by omega)
        rw [size_mk]; omega
      have HC2 : Hid (CurAt w2 g a L.length cap (textP L s' 4).2) := hc2
      have hown2 := hown.kept hg2 (Or.inr hne)
      have hgw2 := grown_trans hgw hg2
      generalize (textP L s' 4).2 = s2 at *
      generalize (⟨(textP L s' 4).1.toArray⟩ : ByteArray) = x at *
      have HFX : Hid (Few (ss ++ [x])) := HF.out.snoc hx
      have hs2 : w.heap.size ≤ w2.heap.size := hgw2.size
      have HCC : Hid (_) := one_str w2 x
      clear hc2 hg2 HC HL hgw
      go_wp2_with (at_builtin; refine wpList_append_own _ rfl _ _ 24 rfl w.heap.size 9 i0 (.string ⟨#[]⟩) 1 16 Tryd.underlying24 hi hz0 hz1 hz2 rfl (by decide) _ _ _ rfl (hown2.alloc _) ⟨w2.heap.size, 0, none⟩ 1 1 ([x].map sv) rfl rfl HCC (sv_one _) (by unfold maxLen; omega) (by omega) (by simp; omega) ?_)
      intro v' w3 hown' hgrow hnn
      replace hown' := own_sn hown'
      have hnil' : v' ≠ .slice none 0 0 := hnn
      have hg3 := grown_alloc (grown_refl w2 (some g)) (.cells #[.string x] 9)
      have HC3 : Hid (CurAt w3 g a L.length cap s2) := cur_kept (cur_kept HC2.out (grown_alloc (grown_refl w2 none) _) (by simp)) hgrow hne
      have hgw3 := grown_fresh (grown_trans hgw2 hg3) hgrow (fun j hj => (hown.lt j hj).1)
      have HL3 : Hid (CodeAt w3 g a L) := CodeAt.kept HL0.out hgw3
      have HO3 : Hid (w3.ownsRow w.heap.size 9 1 v' (ss ++ [x]).length ((ss ++ [x]).map sv)) := by
        rw [List.length_append]; exact hown'
      clear hgrow hg3 hgw2 HC2 hown2 HCC hnn hown'
      go_wp2
      go_roundw
      case rel =>
        have R : ∃ (k' : Nat) (ss' : List ByteArray) (s'' : St), k' + ss'.length ≤ 8 ∧ Value.int .i64 (k : Int) = .int .i64 (k' : Int) ∧ v' ≠ .slice none 0 0 ∧ w3.ownsRow w.heap.size 9 1 v' ss'.length (ss'.map sv) ∧ Hid (Few ss') ∧ Hid (CurAt w3 g a L.length cap s'') ∧ Hid (CodeAt w3 g a L) ∧ w.grownBy w3 (some g) :=
          ⟨k, ss ++ [x], s2, by simp; omega, rfl, hnil', HO3.out, HFX, HC3, HL3, hgw3⟩
        first | exact R | ((repeat apply Exists.intro); exact ⟨R, rfl⟩)
      case measure => simp [intOf]
set_option maxHeartbeats 400000 in
theorem drawTree_any (a : Option Addr) (L : List UInt8) (cap : Nat) (w : World) (hl : CodeAt w w.heap.size a L) (hlen : L.length ≤ 1048576) :
    Calls Tryd.prog 11 #[.slice a L.length cap] w fun e w' => ∃ (ss : List ByteArray) (gr c : Nat), e = .returned (.slice (some ⟨gr, 0, none⟩) ss.length c) ∧ ss.length ≤ 41 ∧ Few ss ∧ OwnS w' w.heap.size gr c ss ∧ Below w.heap.size w w' := by
  have HL : Hid (CodeAt w w.heap.size a L) := hl
  clear hl
  go_enter Tryd.func11, Tryd.ntmps11
  go_wp2_with fail
  refine (new_any a L cap _ HL.out hlen).mono ?_
  rintro e w1 ⟨rfl, rfl⟩
  have HC1 : Hid (_) := new_cur a L cap w
  go_wp2_with fail
  refine (leaves_any w.heap.size a L cap ⟨0, newF L⟩ _ HC1.out (new_code _ HL.out) hlen).mono ?_
  rintro e w2 ⟨ss, gr, c, rfl, hs41, hF, hown, hg2⟩
  have HO : Hid (OwnS w2 w.heap.size gr c ss) := own_mono hown (by simp)
  have hb := below_new _ hg2
  clear hown hg2
  go_wp2
  go_ret
  exact ⟨ss, gr, c, rfl, hs41, hF, HO.out, hb⟩
end Go.Proofs.YtfljibpodcbmlaaDoor
