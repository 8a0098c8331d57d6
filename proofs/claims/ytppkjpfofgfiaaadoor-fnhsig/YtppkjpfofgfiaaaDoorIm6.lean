/- What the program's TreePath answers: a row of texts of its own; old memory stays. -/
import Derived.Test.YtppkjpfofgfiaaaDoorIm5
namespace Go.Proofs.YtppkjpfofgfiaaaDoor
open Go.RowKit
open Num
set_option linter.unusedVariables false
/-- How the walk down stands: the leaves below, which of them, and the hashes that were laid aside, the topmost first. -/
def DownP (ss : List ByteArray) (i : Nat) (q : List ByteArray) (i' : Nat) (acc : List ByteArray) : Prop := pathL ss i = pathL q i' ++ acc.reverse
theorem DownP.low {ss q acc : List ByteArray} {i i' : Nat} (h : DownP ss i q i' acc) (h2 : 2 ≤ q.length) (hi : i' < spl q.length) : DownP ss i (q.take (spl q.length)) i' (acc ++ [rootL (q.drop (spl q.length))]) := by
  unfold DownP at *
  rw [h, pathL_low q i' h2 hi]; simp
theorem DownP.high {ss q acc : List ByteArray} {i i' : Nat} (h : DownP ss i q i' acc) (h2 : 2 ≤ q.length) (hi : ¬ i' < spl q.length) : DownP ss i (q.drop (spl q.length)) (i' - spl q.length) (acc ++ [rootL (q.take (spl q.length))]) := by
  unfold DownP at *
  rw [h, pathL_high q i' h2 hi]; simp
theorem own_fr {w : World} {B : Nat} {v : Value} {l : List ByteArray} (h : w.ownsRow B 9 1 v l.length (l.map sv)) : ∃ a c, v = .slice a l.length c ∧ l.length ≤ c ∧ c ≤ 9223372036854775807 ∧ Fr B w a l := by
  rcases h.2 with ⟨e0, h0⟩ | ⟨g, cap, cur, e0, hb, hg, hn, hm, _⟩
  · exact ⟨none, 0, by rw [e0, h0], by omega, by omega, .inl h0⟩
  · subst e0
    exact ⟨_, cap, rfl, hn, hm, .inr ⟨g, 0, rfl, hb, own_str h, own_there h⟩⟩
theorem own_keep {W W' : World} {B n : Nat} {t : TypeId} {v : Value} {xs : List Value} (h : W.ownsRow B t 1 v n xs) (hb : Below W.heap.size W W') : W'.ownsRow B t 1 v n xs := by
  rcases h.2 with ⟨e0, h0⟩ | ⟨g, cap, cur, e0, _⟩
  · exact ⟨h.1, .inl ⟨e0, h0⟩⟩
  · subst e0; exact own_below h hb
theorem own_snt {w : World} {B n : Nat} {v : Value} {ss : List ByteArray} {x : ByteArray} (h : w.ownsRow B 9 1 v n (ss.map sv ++ [x].map sv)) : w.ownsRow B 9 1 v n ((ss ++ [x]).map sv) := by
  rw [List.map_append]; exact h
theorem StrAt.drop {w : World} {b o : Nat} {ss : List ByteArray} (h : StrAt w b o ss) (k : Nat) : StrAt w b (o + k) (ss.drop k) := by
  have := h.win k (ss.length - k)
  rw [List.take_of_length_le (by rw [List.length_drop]; exact Nat.le_refl _)] at this; exact this
set_option maxHeartbeats 3200000 in
theorem impl_treePath : CPath Tab := by
  intro b o cap ss i w hl hlc hcap hA hS hi0 hi1 hT
  obtain ⟨i0, hif, hz0, hz1, hz2⟩ := info9f
  have HA : Hid (StrAt w b o ss) := hA
  have HS : Hid (∀ s ∈ ss, s.size ≤ 2097152) := fun s h => Nat.le_trans (hS s h) (by decide)
  have HT : Hid (Tab w) := hT
  clear hA hS hT
  by_cases hlo : 0 ≤ i ∧ i < (ss.length : Int) ∧ (ss.length : Int) ≤ 40
  · have HL : Hid (leafOf i ss.length = true) := by show _ = _; simp [leafOf, hlo]
    obtain ⟨i', rfl⟩ : ∃ i' : Nat, i = (i' : Int) := ⟨i.toNat, by omega⟩
    have hin : i' < ss.length := by omega
    have hn40 : ss.length ≤ 40 := by omega
    have hTP : treeP ss (i' : Int) = pathL ss i' := by unfold treeP; rw [if_neg (by omega), Int.toNat_natCast]
    rw [hTP]
    clear hlo hTP
    generalize hPL : pathL ss i' = PL
    have HPL : Hid (pathL ss i' = PL) := hPL
    clear hPL
    go_enter Tryd.func30, Tryd.ntmps30
    go_wp2_with fail
    refine (impl_isLeaf _ _ hi0 hi1 (by omega) (by omega) w).mono ?_
    rintro e w1 ⟨rfl, rfl⟩
    rw [HL.out]
    go_wp2
    go_loopw [1, 5, 6] (fun iv tv pv wr => ∃ (j o' c' : Nat) (q acc : List ByteArray), iv = .int .i64 j ∧ pv = .slice (some ⟨b, o', none⟩) q.length c' ∧ j < q.length ∧ q.length ≤ 40 ∧ acc.length + q.length ≤ 41 ∧ q.length ≤ c' ∧ c' ≤ 9223372036854775807 ∧ wr.ownsRow w1.heap.size 9 1 tv acc.length (acc.map sv) ∧ Hid (StrAt w1 b o' q) ∧ Hid (∀ s ∈ q, s.size ≤ 2097152) ∧ Hid (DownP ss i' q j acc) ∧ Below w1.heap.size w1 wr) (fun _ _ pv _ => lenOf pv)
    case atStart => exact ⟨i', o, cap, ss, [], rfl, rfl, hin, hn40, by simp; omega, hlc, hcap, own_nil _ _ _, HA, HS, by show pathL ss i' = _; simp, Below.refl _ _⟩
    case round =>
      obtain ⟨j, o', c', q, acc, rfl, rfl, hj, hq40, hacc, hqc, hc9, hown, HAQ, HSQ, HD, hb⟩ := hrel
      by_cases h1 : q.length = 1
      · have HE : Hid (PL = acc.reverse) := by
          have := HD.out
          unfold DownP at this
          rw [pathL_one q j h1, List.nil_append, HPL.out] at this
          exact this
        have h1' : ¬ (1 : Int) < (q.length : Int) := by omega
        go_wp2_with fail
        refine (rev_texts w1.heap.size u5 acc wr hown (by omega)).mono ?_
        rintro e w2 ⟨rfl, hown2, hb2⟩
        have hbe := hb2 _ _ hb (Nat.le_refl _)
        have hown3 : w2.ownsRow w1.heap.size 9 1 u5 acc.reverse.length (acc.reverse.map sv) := by rw [List.length_reverse]; exact hown2
        obtain ⟨av, cv, rfl, hv1, hv2, hfr⟩ := own_fr hown3
        have HFR : Hid (Fr w1.heap.size w2 av acc.reverse) := hfr
        clear hown hown2 hown3 hb2 hb hfr
        go_wp2
        go_ret
        refine ⟨av, cv, ?_, ?_, hv2, ?_, hbe⟩
        · rw [HE.out, List.length_reverse]; rfl
        · rw [HE.out]; exact hv1
        · rw [HE.out]; exact HFR.out
      · have h2 : 2 ≤ q.length := by omega
        have hs := spl_lt h2
        obtain ⟨k, hk⟩ : ∃ k, k = spl q.length := ⟨_, rfl⟩
        rw [← hk] at hs
        obtain ⟨hk1, hk2⟩ := hs
        have HK : Hid (k = spl q.length) := hk
        have hgt : (1 : Int) < (q.length : Int) := by omega
        have hkn : (k : Int) ≤ (q.length : Int) := by omega
        have hkc : (k : Int) ≤ (c' : Int) := by omega
        have hck : ¬ c' = k := by omega
        have hsr : w1.heap.size ≤ wr.heap.size := hb.size
        have HL1 : Hid ((q.take k).length = k) := by show _ = _; rw [List.length_take]; omega
        have HL2 : Hid ((q.drop k).length = q.length - k) := List.length_drop
        by_cases hik : j < k
        · have hik' : (j : Int) < (k : Int) := by omega
          have HDN : Hid (DownP ss i' (q.take k) j (acc ++ [rootL (q.drop k)])) := by show DownP _ _ _ _ _; rw [hk]; exact HD.out.low h2 (by omega)
          have HAN : Hid (StrAt w1 b o' (q.take k)) := HAQ.out.take k
          have HSN : Hid (∀ s ∈ q.take k, s.size ≤ 2097152) := fun s hs => HSQ.out s (List.mem_of_mem_take hs)
          have HC : Hid (Calls Tryd.prog 24 #[.slice (some ⟨b, o' + k, none⟩) (q.length - k) (c' - k)] wr fun e w' => e = .returned (.string (rootL (q.drop k))) ∧ Below wr.heap.size wr w') := by
            have h := impl_treeRoot b (o' + k) (c' - k) (q.drop k) wr (by rw [HL2.out]; omega) (by omega) ((HAQ.out.below hb).drop k) (fun s hs => HSQ.out s (List.mem_of_mem_drop hs)) (HT.out.below hb HT.out.pos)
            rw [HL2.out, treeR_few _ (by rw [HL2.out]; omega) (by rw [HL2.out]; omega)] at h
            exact h
          generalize rootL (q.drop k) = y at *
          clear hk
          go_wp2_with fail
          refine (impl_split q.length h2 (by omega) wr).mono ?_
          rintro e w2 ⟨rfl, rfl⟩
          rw [← HK.out]
          go_wp2_with fail
          refine HC.out.mono ?_
          rintro e w3 ⟨rfl, hb3⟩
          have hown3 := own_keep hown hb3
          have hb13 := hb.trans (hb3.mono hb.size)
          have hs3 : w1.heap.size ≤ w3.heap.size := hb13.size
          have HCC : Hid (_) := one_str w3 y
          clear hb hb3 hown HC
          go_wp2_with (at_builtin; refine wpList_append_own _ rfl _ _ 37 rfl w1.heap.size 9 i0 (.string ⟨#[]⟩) 1 16 Tryd.underlying37 hif hz0 hz1 hz2 rfl (by decide) _ _ _ rfl (hown3.alloc _) ⟨w3.heap.size, 0, none⟩ 1 1 ([y].map sv) rfl rfl HCC (sv_one _) (by unfold maxLen; omega) (by omega) (by simp; omega) ?_)
          intro v' w4 hown' hgrow hnn
          replace hown' := own_snt hown'
          have hb4 : Below w1.heap.size w1 w4 := (hb13.alloc hs3 _).grown hgrow (by simp; omega) (fun j hj => (hown3.lt j hj).1)
          have HO : Hid (w4.ownsRow w1.heap.size 9 1 v' (acc ++ [y]).length ((acc ++ [y]).map sv)) := by
            show World.ownsRow _ _ _ _ _ _ _
            rw [List.length_append]; exact hown'
          clear hgrow hown' hnn HCC hown3 hb13
          go_wp2
          go_roundw
          case rel =>
            have R : ∃ (j' o'' c'' : Nat) (q' acc' : List ByteArray), Value.int .i64 (j : Int) = .int .i64 j' ∧ Value.slice (some ⟨b, o', none⟩) k c' = .slice (some ⟨b, o'', none⟩) q'.length c'' ∧ j' < q'.length ∧ q'.length ≤ 40 ∧ acc'.length + q'.length ≤ 41 ∧ q'.length ≤ c'' ∧ c'' ≤ 9223372036854775807 ∧ w4.ownsRow w1.heap.size 9 1 v' acc'.length (acc'.map sv) ∧ Hid (StrAt w1 b o'' q') ∧ Hid (∀ s ∈ q', s.size ≤ 2097152) ∧ Hid (DownP ss i' q' j' acc') ∧ Below w1.heap.size w1 w4 :=
              ⟨j, o', c', q.take k, acc ++ [y], rfl, by rw [HL1.out], by rw [HL1.out]; exact hik, by rw [HL1.out]; omega, by rw [HL1.out]; simp; omega, by rw [HL1.out]; omega, hc9, HO.out, HAN, HSN, HDN, hb4⟩
            first | exact R | ((repeat apply Exists.intro); exact ⟨R, rfl⟩)
          case measure => simp [lenOf]; omega
        · have hik' : ¬ (j : Int) < (k : Int) := by omega
          obtain ⟨d, hd⟩ : ∃ d, d = j - k := ⟨_, rfl⟩
          have e1 : (j : Int) - (k : Int) = (d : Int) := by omega
          have hdl : d < q.length - k := by omega
          have HDN : Hid (DownP ss i' (q.drop k) d (acc ++ [rootL (q.take k)])) := by show DownP _ _ _ _ _; rw [hd, hk]; exact HD.out.high h2 (by omega)
          have HAN : Hid (StrAt w1 b (o' + k) (q.drop k)) := HAQ.out.drop k
          have HSN : Hid (∀ s ∈ q.drop k, s.size ≤ 2097152) := fun s hs => HSQ.out s (List.mem_of_mem_drop hs)
          have HC : Hid (Calls Tryd.prog 24 #[.slice (some ⟨b, o', none⟩) k c'] wr fun e w' => e = .returned (.string (rootL (q.take k))) ∧ Below wr.heap.size wr w') := by
            have h := impl_treeRoot b o' c' (q.take k) wr (by rw [HL1.out]; omega) (by omega) ((HAQ.out.below hb).take k) (fun s hs => HSQ.out s (List.mem_of_mem_take hs)) (HT.out.below hb HT.out.pos)
            rw [HL1.out, treeR_few _ (by rw [HL1.out]; omega) (by rw [HL1.out]; omega)] at h
            exact h
          generalize rootL (q.take k) = y at *
          clear hk hd
          go_wp2_with fail
          refine (impl_split q.length h2 (by omega) wr).mono ?_
          rintro e w2 ⟨rfl, rfl⟩
          rw [← HK.out]
          go_wp2_with fail
          refine HC.out.mono ?_
          rintro e w3 ⟨rfl, hb3⟩
          have hown3 := own_keep hown hb3
          have hb13 := hb.trans (hb3.mono hb.size)
          have hs3 : w1.heap.size ≤ w3.heap.size := hb13.size
          have HCC : Hid (_) := one_str w3 y
          clear hb hb3 hown HC
          go_wp2_with (at_builtin; refine wpList_append_own _ rfl _ _ 37 rfl w1.heap.size 9 i0 (.string ⟨#[]⟩) 1 16 Tryd.underlying37 hif hz0 hz1 hz2 rfl (by decide) _ _ _ rfl (hown3.alloc _) ⟨w3.heap.size, 0, none⟩ 1 1 ([y].map sv) rfl rfl HCC (sv_one _) (by unfold maxLen; omega) (by omega) (by simp; omega) ?_)
          intro v' w4 hown' hgrow hnn
          replace hown' := own_snt hown'
          have hb4 : Below w1.heap.size w1 w4 := (hb13.alloc hs3 _).grown hgrow (by simp; omega) (fun j hj => (hown3.lt j hj).1)
          have HO : Hid (w4.ownsRow w1.heap.size 9 1 v' (acc ++ [y]).length ((acc ++ [y]).map sv)) := by
            show World.ownsRow _ _ _ _ _ _ _
            rw [List.length_append]; exact hown'
          clear hgrow hown' hnn HCC hown3 hb13
          go_wp2
          go_roundw
          case rel =>
            have R : ∃ (j' o'' c'' : Nat) (q' acc' : List ByteArray), Value.int .i64 (d : Int) = .int .i64 j' ∧ Value.slice (some ⟨b, o' + k, none⟩) (q.length - k) (c' - k) = .slice (some ⟨b, o'', none⟩) q'.length c'' ∧ j' < q'.length ∧ q'.length ≤ 40 ∧ acc'.length + q'.length ≤ 41 ∧ q'.length ≤ c'' ∧ c'' ≤ 9223372036854775807 ∧ w4.ownsRow w1.heap.size 9 1 v' acc'.length (acc'.map sv) ∧ Hid (StrAt w1 b o'' q') ∧ Hid (∀ s ∈ q', s.size ≤ 2097152) ∧ Hid (DownP ss i' q' j' acc') ∧ Below w1.heap.size w1 w4 :=
              ⟨d, o' + k, c' - k, q.drop k, acc ++ [y], rfl, by rw [HL2.out], by rw [HL2.out]; exact hdl, by rw [HL2.out]; omega, by rw [HL2.out]; simp; omega, by rw [HL2.out]; omega, by omega, HO.out, HAN, HSN, HDN, hb4⟩
            first | exact R | ((repeat apply Exists.intro); exact ⟨R, rfl⟩)
          case measure => simp [lenOf]; omega
  · have HL : Hid (leafOf i ss.length = false) := by show _ = _; simp [leafOf, hlo]
    have hTP : treeP ss i = [] := by unfold treeP; rw [if_pos (by omega)]
    rw [hTP]
    clear hlo hTP
    go_enter Tryd.func30, Tryd.ntmps30
    go_wp2_with fail
    refine (impl_isLeaf i _ hi0 hi1 (by omega) (by omega) w).mono ?_
    rintro e w1 ⟨rfl, rfl⟩
    rw [HL.out]
    go_wp2
    go_ret
    exact ⟨none, 0, rfl, by simp, by omega, .inl rfl, Below.refl _ _⟩
end Go.Proofs.YtppkjpfofgfiaaaDoor
