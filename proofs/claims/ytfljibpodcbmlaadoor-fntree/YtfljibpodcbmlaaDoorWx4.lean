/- The walk of FnTree, over whatever the program's own functions are proved to answer. -/
import Derived.Test.YtfljibpodcbmlaaDoorWx3
import Derived.Test.YtfljibpodcbmlaaDoorDrl
import Derived.Test.YtfljibpodcbmlaaDoorMnum2
import Derived.Deep.CutRange
namespace Go.Proofs.YtfljibpodcbmlaaDoor
open Go.RowKit
open Num
set_option linter.unusedVariables false
/-- What a round holds: the leaves, a path, old memory. -/
def Trk (w : World) (gr : Nat) (ss : List ByteArray) (a : Option Addr) (P : List ByteArray) (W : World) : Prop := StrAt W gr 0 ss ∧ StrO W a P ∧ Below w.heap.size w W
theorem Trk.step {w W W' : World} {gr : Nat} {ss : List ByteArray} {a : Option Addr} {P : List ByteArray} (h : Trk w gr ss a P W) (hb : Below W.heap.size W W') : Trk w gr ss a P W' :=
  ⟨h.1.below hb, h.2.1.below hb, h.2.2.trans (hb.mono h.2.2.size)⟩
theorem Trk.drew {w W : World} {gr : Nat} {ss : List ByteArray} {a : Option Addr} {P : List ByteArray} (h : Trk w gr ss a P W) : Trk w gr ss a P W.drew := ⟨h.1, h.2.1, h.2.2.drew⟩
theorem Trk.drewN {w W : World} {gr : Nat} {ss : List ByteArray} {a : Option Addr} {P : List ByteArray} (h : Trk w gr ss a P W) (q : Nat) : Trk w gr ss a P (W.drewN q) := ⟨h.1, h.2.1, below_drewN h.2.2 q⟩
theorem Trk.cell {w W : World} {gr : Nat} {ss : List ByteArray} {a : Option Addr} {P : List ByteArray} (h : Trk w gr ss a P W) {k : Nat} (hk : k < ss.length) : W.cell? ⟨gr, k, none⟩ = some (.string ss[k]) := by
  have := h.1 k hk
  rw [Nat.zero_add] at this; exact this
def Sx (w : World) (gr k : Nat) (x : ByteArray) (ss : List ByteArray) (a : Option Addr) (P : List ByteArray) (W : World) : Prop := W.cell? ⟨gr, k, none⟩ = some (.string x) ∧ Trk w gr ss a P W
theorem own_cap {w : World} {B g cap : Nat} {l : List ByteArray} (h : OwnS w B g cap l) : l.length ≤ cap ∧ cap ≤ 9223372036854775807 := by
  rcases h.2 with ⟨h', _⟩ | ⟨g', cap', cur, h', _, _, h1, h2, _⟩
  · simp at h'
  · simp only [Value.slice.injEq, Option.some.injEq, Addr.mk.injEq, and_true, true_and] at h'
    obtain ⟨_, rfl⟩ := h'
    unfold maxLen at h2
    exact ⟨h1, by omega⟩
theorem tail_o {W : World} {b o : Nat} {P : List ByteArray} (h : StrAt W b o P) : StrO W (some ⟨b, o + 1, none⟩) (P.drop 1) := by
  refine .inr ⟨b, o + 1, rfl, ?_⟩
  have := h.win 1 (P.length - 1)
  rw [List.take_of_length_le (by rw [List.length_drop]; exact Nat.le_refl _)] at this; exact this
theorem own_set {w : World} {B g cap : Nat} {l : List ByteArray} (h : OwnS w B g cap l) (k : Nat) (y : ByteArray) : OwnS (w.setCell ⟨g, k, none⟩ (.string y)) B g cap (l.set k y) := by
  have := (h.stored k (sv y)).1
  rw [← List.map_set] at this
  show (w.setCell ⟨g, k, none⟩ (sv y)).ownsRow B 9 1 (.slice _ (l.set k y).length cap) (l.set k y).length _
  rw [List.length_set]; exact this
set_option maxHeartbeats 6400000 in
set_option maxRecDepth 100000 in
theorem w_tree (T : World → Prop) (cR : CRoot T) (cP : CPath T) (cI : CIncl T) (a : Option Addr) (L : List UInt8) (cap : Nat) (w : World) (hl : CodeAt w w.heap.size a L) (hlen : L.length ≤ 1048576) (hT : ∀ W, Below w.heap.size w W → T W) :
    Calls Tryd.prog 3 #[.slice a L.length cap] w fun e w' => e = .returned (.bool true) ∧ Below w.heap.size w w' := by
  have HR : Hid (CRoot T) := cR
  have HP : Hid (CPath T) := cP
  have HI : Hid (CIncl T) := cI
  have HT : Hid (∀ W, Below w.heap.size w W → T W) := hT
  have HL : Hid (CodeAt w w.heap.size a L) := hl
  have hbig : decide ((1048576 : Int) < (L.length : Int)) = false := by simp; omega
  clear cR cP cI hT hl
  go_enter Tryd.func3, Tryd.ntmps3
  go_wp2_with fail
  refine (big_any a L.length cap _ (by omega)).mono ?_
  rintro e w0 ⟨rfl, rfl⟩
  rw [hbig]
  go_wp2_with fail
  refine (drawTree_any a L cap _ HL.out hlen).mono ?_
  rintro e w1 ⟨ss, gr, c, rfl, hs41, hF, hown, hb1⟩
  have HF : Hid (Few ss) := hF
  have hcc : ss.length ≤ c ∧ c ≤ 9223372036854775807 := by
    rcases hown.2 with ⟨h', _⟩ | ⟨g', cap', cur, h', _, _, h1, h2, _⟩
    · simp at h'
    · simp only [Value.slice.injEq, Option.some.injEq, Addr.mk.injEq, and_true, true_and] at h'
      obtain ⟨_, rfl⟩ := h'
      unfold maxLen at h2
      exact ⟨h1, by omega⟩
  obtain ⟨hc1, hc2⟩ := hcc
  have hgr : w0.heap.size ≤ gr := (hown.lt gr rfl).1
  have HA1 : Hid (StrAt w1 gr 0 ss) := own_str hown
  have HF7 : Hid (∀ s ∈ ss, s.size ≤ 1048577) := fun s h => Nat.le_trans (HF.out s h) (by decide)
  clear hF hown
  by_cases hbg : (40 : Int) < (ss.length : Int)
  · have HTR : Hid (treeR ss = ⟨#[]⟩) := by show _ = _; unfold treeR; rw [if_pos (by omega)]
    have HCR : Hid (Calls _ _ _ _ _) := HR.out gr 0 c ss w1 (by omega) hc1 hc2 HA1.out HF7.out (HT.out _ hb1)
    rw [HTR.out] at HCR
    go_wp2_with fail
    refine HCR.out.mono ?_
    rintro e w2 ⟨rfl, hb2⟩
    have hb3 := hb1.trans (hb2.mono hb1.size)
    clear HCR hb1 hb2
    go_wp2
    go_ret
    exact ⟨rfl, hb3⟩
  · have h40 : ss.length ≤ 40 := by omega
    obtain ⟨R, hR⟩ : ∃ R, treeR ss = R := ⟨_, rfl⟩
    have HRE : Hid (treeR ss = R) := hR
    have hRs : R.size = 32 := by rw [← hR]; exact size_treeR ss h40
    have HCR : Hid (Calls _ _ _ _ _) := HR.out gr 0 c ss w1 (by omega) hc1 hc2 HA1.out HF7.out (HT.out _ hb1)
    rw [HRE.out] at HCR
    clear hR
    go_wp2_with fail
    refine HCR.out.mono ?_
    rintro e w2 ⟨rfl, hb2⟩
    have HA2 : Hid (StrAt w2 gr 0 ss) := HA1.out.below hb2
    have hb12 := hb1.trans (hb2.mono hb1.size)
    clear HCR hb1 hb2 HA1
    have HCS : Hid (Calls _ _ _ _ _) := spec_treeRoot gr 0 c ss w2 hc1 hc2 HA2.out (fun s h => Nat.le_trans (HF.out s h) (by decide))
    rw [HRE.out] at HCS
    have hRR : (R.toList != R.toList) = false := by simp
    go_wp2_with fail
    refine HCS.out.mono ?_
    rintro e w3 ⟨rfl, hb3⟩
    have HA3 : Hid (StrAt w3 gr 0 ss) := HA2.out.below hb3
    have hb13 := hb12.trans (hb3.mono hb12.size)
    clear HCS hb12 hb3 HA2
    go_wp2
    go_loopw [5] (fun i wr => ∃ k : Nat, k ≤ ss.length ∧ k ≤ 10 ∧ i = .int .i64 k ∧ Hid (StrAt wr gr 0 ss) ∧ Below w0.heap.size w0 wr) (fun i _ => 10 - (intOf i).toNat)
    case atStart => exact ⟨0, by omega, by omega, rfl, HA3, hb13⟩
    case round =>
      clear HA3 hb13
      obtain ⟨k, hk, hk10, rfl, HA, hb⟩ := hrel
      by_cases hlt : k < ss.length ∧ k < 10
      · obtain ⟨hlt1, hlt2⟩ := hlt
        have hl1 : (k : Int) < (ss.length : Int) := by omega
        have hl2 : (k : Int) < 10 := by omega
        obtain ⟨P, hP⟩ : ∃ P, treeP ss k = P := ⟨_, rfl⟩
        have HPE : Hid (treeP ss k = P) := hP
        have HCP : Hid (Calls _ _ _ _ _) := HP.out gr 0 c ss (k : Int) wr (by omega) hc1 hc2 HA.out HF7.out (by omega) (by omega) (HT.out _ hb)
        rw [HPE.out] at HCP
        have hPl : P.length ≤ 40 := by rw [← hP]; exact length_treeP ss k
        obtain ⟨x, hx⟩ : ∃ x, ss[k] = x := ⟨_, rfl⟩
        have HX : Hid (ss[k] = x) := hx
        have hxs : x.size ≤ 4 := by rw [← hx]; exact HF.out _ (List.getElem_mem hlt1)
        have yes : incl R x (k : Int) (ss.length : Int) P = true := by
          rw [← hx, ← HPE.out, ← HRE.out]; exact incl_yes ss k hlt1 h40
        have short : 0 < P.length → ∀ r d, incl r d (k : Int) (ss.length : Int) (P.drop 1) = false := fun h r d => by
          rw [← HPE.out] at h ⊢
          exact incl_short ss k hlt1 h40 h r d
        have HSH : Hid (0 < P.length → ∀ r d, incl r d (k : Int) (ss.length : Int) (P.drop 1) = false) := short
        have HPS : Hid (∀ s ∈ P, s.size ≤ 1048577) := fun s hs => by
          rw [← HPE.out] at hs
          rw [mem_treeP ss k s hs]; decide
        clear hP hx short
        go_wp2_with fail
        refine HCP.out.mono ?_
        rintro e w4 ⟨ap, cp, rfl, hp1, hp2, hfr, hb4⟩
        have HTK : Hid (Trk w0 gr ss ap P w4) := ⟨HA.out.below hb4, hfr.o, hb.trans (hb4.mono hb.size)⟩
        clear HCP hfr hb4 hb HA
        have HCI : Hid (∀ (d : ByteArray) (W : World), d.size ≤ 1048577 → (W.cell? ⟨gr, k, none⟩ = some (.string x) ∧ Trk w0 gr ss ap P W) → Calls Tryd.prog 15 #[.string R, .string d, .int .i64 (k : Int), .int .i64 (ss.length : Int), .slice ap P.length cp] W fun e w' => e = .returned (.bool (incl R d (k : Int) (ss.length : Int) P)) ∧ (w'.cell? ⟨gr, k, none⟩ = some (.string x) ∧ Trk w0 gr ss ap P w')) := by
          intro d W hd hW
          refine (HI.out R d (k : Int) (ss.length : Int) ap cp P W (by omega) hd (by omega) (by omega) (by omega) (by omega) (by omega) hp1 hp2 hW.2.2.1 HPS.out (HT.out _ hW.2.2.2)).mono ?_
          rintro e w' ⟨he, hb'⟩
          have := hW.2.step hb'
          exact ⟨he, by rw [← HX.out]; exact this.cell hlt1, this⟩
        have HCS : Hid (∀ (d : ByteArray) (W : World), d.size ≤ 1048577 → (W.cell? ⟨gr, k, none⟩ = some (.string x) ∧ Trk w0 gr ss ap P W) → Calls Tryd.prog 16 #[.string R, .string d, .int .i64 (k : Int), .int .i64 (ss.length : Int), .slice ap P.length cp] W fun e w' => e = .returned (.bool (incl R d (k : Int) (ss.length : Int) P)) ∧ (w'.cell? ⟨gr, k, none⟩ = some (.string x) ∧ Trk w0 gr ss ap P w')) := by
          intro d W hd hW
          refine (spec_includes R d (by omega) (k : Int) (ss.length : Int) (by omega) (by omega) (by omega) (by omega) cp ap P W hp1 hp2 hW.2.2.1 (fun s h => Nat.le_trans (HPS.out s h) (by decide))).mono ?_
          rintro e w' ⟨he, hb'⟩
          have := hW.2.step hb'
          exact ⟨he, by rw [← HX.out]; exact this.cell hlt1, this⟩
        have HS4 : Hid (w4.cell? ⟨gr, k, none⟩ = some (.string x) ∧ Trk w0 gr ss ap P w4) := ⟨by rw [← HX.out]; exact HTK.out.cell hlt1, HTK.out⟩
        have HS4d : Hid (w4.drew.cell? ⟨gr, k, none⟩ = some (.string x) ∧ Trk w0 gr ss ap P w4.drew) := ⟨HS4.out.1, HS4.out.2.drew⟩
        have z1 : x.size ≤ 1048577 := by omega
        have z2 : (x ++ ⟨#[120]⟩ : ByteArray).size ≤ 1048577 := by
          rw [ByteArray.size_append]; show _ + 1 ≤ _; omega
        have z3 : (⟨#[120]⟩ : ByteArray).size = 1 := rfl
        have z4 : ¬ 9223372036854775807 < x.size + 1 := by omega
        generalize hB : incl R (x ++ ⟨#[120]⟩) (k : Int) (ss.length : Int) P = B2
        have hB2 : (B2 != B2) = false := by simp
        go_upto_region 13 with fail
        go_cut [90] from 29 to 122 (fun s90 wx => s90 = .bool false ∧ Hid (Trk w0 gr ss ap P wx))
        case first =>
          go_region_held3 (fun W : World => W.cell? ⟨gr, k, none⟩ = some (.string x) ∧ Trk w0 gr ss ap P W) (first | exact HS4.out | exact HS4d.out | assumption) (first | (go_at_call 15; refine (HCI.out _ _ (by assumption) (by assumption)).mono ?_; rintro e w' ⟨rfl, hw'⟩) | (go_at_call 16; refine (HCS.out _ _ (by assumption) (by assumption)).mono ?_; rintro e w' ⟨rfl, hw'⟩))
          all_goals
            go_wp2_with fail
            go_meet
            exact ⟨rfl, hw'.2⟩
        case rest =>
          obtain ⟨rfl, HTK5⟩ := hcut
          clear HTK HS4 HS4d HCI HCS hB hB2
          obtain ⟨i0, hi, hz0, hz1, hz2⟩ := info9f
          have hown5 : (wc.alloc (.cells #[] 9)).ownsRow wc.heap.size 9 1 (.slice (some ⟨wc.heap.size, 0, none⟩) 0 0) 0 (([] : List ByteArray).map sv) := World.ownsRow_made wc #[] 0 (Nat.le_refl _) (by decide) rfl
          have hnw : ∀ j u, (ss.map sv)[j]? = some u → (wc.alloc (.cells #[] 9)).cell? ((⟨gr, 0, none⟩ : Addr).add j) = some u := fun j u hu => by
            have hj : j < ss.length := by have := (List.getElem?_eq_some_iff.1 hu).1; simpa using this
            rw [add_at]
            have h1 := (HTK5.out.1.below ((Below.refl _ _).alloc (Nat.le_refl _) (.cells #[] 9))) j hj
            rw [Nat.zero_add] at h1
            rw [h1, ← hu, List.getElem?_map, List.getElem?_eq_getElem hj]; rfl
          have HNW : Hid (∀ j u, (ss.map sv)[j]? = some u → (wc.alloc (.cells #[] 9)).cell? ((⟨gr, 0, none⟩ : Addr).add j) = some u) := hnw
          clear hnw
          go_wp2_with (at_builtin; refine wpList_append_own _ rfl _ _ 24 rfl wc.heap.size 9 i0 (.string ⟨#[]⟩) 1 16 Tryd.underlying24 hi hz0 hz1 hz2 rfl (by decide) _ _ _ rfl hown5 ⟨gr, 0, none⟩ ss.length c (ss.map sv) rfl (by simp) HNW.out (sv_one _) (by unfold maxLen; omega) (by omega) (by simp) ?_)
          intro v' w6 hown6 hgrow6 hnn6
          obtain ⟨gx, cx, rfl⟩ := own_form hown6 hnn6
          have HO6 : Hid (OwnS w6 wc.heap.size gx cx ss) := hown6
          have hgx : wc.heap.size ≤ gx := (hown6.lt gx rfl).1
          have hb6 : Below wc.heap.size wc w6 := ((Below.refl _ _).alloc (Nat.le_refl _) _).grown hgrow6 (by simp) (fun j hj => by simp [Value.ownBlock] at hj; omega)
          obtain ⟨hcx1, hcx2⟩ := own_cap HO6.out
          obtain ⟨y, hy⟩ : ∃ y, y = x ++ (⟨#[121]⟩ : ByteArray) := ⟨_, rfl⟩
          have hys : y.size ≤ 5 := by rw [hy, ByteArray.size_append]; show _ + 1 ≤ _; omega
          have cx6 : w6.cell? ⟨gx, k, none⟩ = some (.string x) := by
            have := own_str HO6.out k hlt1
            rw [Nat.zero_add, HX.out] at this; exact this
          have cf6 : w6.frozen? ⟨gx, k, none⟩ = false := HO6.out.frozenAt k
          have HO7 : Hid (OwnS (w6.setCell ⟨gx, k, none⟩ (.string y)) wc.heap.size gx cx (ss.set k y)) := own_set HO6.out k y
          have hb7 : Below wc.heap.size wc (w6.setCell ⟨gx, k, none⟩ (.string y)) := hb6.setCell (p := ⟨gx, k, none⟩) hgx _
          have HTK7 : Hid (Trk w0 gr ss ap P (w6.setCell ⟨gx, k, none⟩ (.string y))) := HTK5.out.step hb7
          have HYE : Hid (y = x ++ (⟨#[121]⟩ : ByteArray)) := hy
          have z5 : (⟨#[121]⟩ : ByteArray).size = 1 := rfl
          have HS7 : Hid (∀ s ∈ ss.set k y, s.size ≤ 5) := fun s hs => by
            rcases List.mem_or_eq_of_mem_set hs with h | h
            · exact Nat.le_trans (HF.out s h) (by decide)
            · rw [h]; exact hys
          have HLS : Hid ((ss.set k y).length = ss.length) := List.length_set
          obtain ⟨R2, hR2⟩ : ∃ R2, treeR (ss.set k y) = R2 := ⟨_, rfl⟩
          have hRR2 : (R2.toList != R2.toList) = false := by simp
          clear hown6 hgrow6 hnn6 hown5 HNW hb6 HO6 hi hz0 hz1 hz2
          have HW7 : Hid (Calls Tryd.prog 12 #[.slice (some ⟨gx, 0, none⟩) ss.length cx] (w6.setCell ⟨gx, k, none⟩ (.string y)) fun e w'' => e = .returned (.string R2) ∧ Below (w6.setCell ⟨gx, k, none⟩ (.string y)).heap.size (w6.setCell ⟨gx, k, none⟩ (.string y)) w'') := by
            have h := HR.out gx 0 cx (ss.set k y) (w6.setCell ⟨gx, k, none⟩ (.string y)) (by rw [HLS.out]; omega) (by rw [HLS.out]; omega) hcx2 (own_str HO7.out) (fun s hs => Nat.le_trans (HS7.out s hs) (by decide)) (HT.out _ HTK7.out.2.2)
            rw [HLS.out, hR2] at h
            exact h
          have HW8 : Hid (∀ W : World, StrAt W gx 0 (ss.set k y) → Calls Tryd.prog 13 #[.slice (some ⟨gx, 0, none⟩) ss.length cx] W fun e w'' => e = .returned (.string R2) ∧ Below W.heap.size W w'') := fun W hW => by
            have h := spec_treeRoot gx 0 cx (ss.set k y) W (by rw [HLS.out]; omega) hcx2 hW (fun s hs => Nat.le_trans (HS7.out s hs) (by decide))
            rw [HLS.out, hR2] at h
            exact h
          have HSA7 : Hid (StrAt (w6.setCell ⟨gx, k, none⟩ (.string y)) gx 0 (ss.set k y)) := own_str HO7.out
          clear hR2 HO7 HS7 HLS hb7 HYE hys
          subst hy
          go_wp2_with fail
          refine HW7.out.mono ?_
          rintro e w8 ⟨rfl, hb8⟩
          have HTK8 : Hid (Trk w0 gr ss ap P w8) := HTK7.out.step hb8
          have HSA8 : Hid (StrAt w8 gx 0 (ss.set k (x ++ ⟨#[121]⟩))) := HSA7.out.below hb8
          clear HTK7 HSA7 hb8 HW7 cx6 cf6
          go_wp2_with fail
          refine (HW8.out w8 HSA8.out).mono ?_
          rintro e w9 ⟨rfl, hb9⟩
          have HTK9 : Hid (Trk w0 gr ss ap P w9) := HTK8.out.step hb9
          clear HTK8 HSA8 HW8 hb9 HTK5 hgx
          have c9 : w9.cell? ⟨gr, k, none⟩ = some (.string x) := by rw [← HX.out]; exact HTK9.out.cell hlt1
          have HS9 : Hid (w9.cell? ⟨gr, k, none⟩ = some (.string x) ∧ Trk w0 gr ss ap P w9) := ⟨c9, HTK9.out⟩
          have HS9d : Hid (w9.drew.cell? ⟨gr, k, none⟩ = some (.string x) ∧ Trk w0 gr ss ap P w9.drew) := ⟨c9, HTK9.out.drew⟩
          clear c9
          go_upto_region 19 with fail
          go_cut [122] from 29 to 122 (fun s122 wx => s122 = .bool false ∧ Hid (Trk w0 gr ss ap P wx))
          case first =>
            by_cases hP0 : P.length = 0
            · obtain rfl : P = [] := List.eq_nil_of_length_eq_zero hP0
              clear hP0 hp1 hPl
              go_quiet (fail)
              all_goals
                go_wp2_with fail
                go_meet
                exact ⟨rfl, HTK9.out.drewN _⟩
            · have hp0 : (0 : Int) < (P.length : Int) := by omega
              obtain ⟨b, o, hap, hAP⟩ : ∃ b o, ap = some ⟨b, o, none⟩ ∧ StrAt w9 b o P := by
                rcases HTK9.out.2.1 with h | h
                · omega
                · exact h
              subst hap
              have HDL : Hid ((P.drop 1).length = P.length - 1) := List.length_drop
              have HCI2 : Hid (∀ (a' : Option Addr) (W : World), StrO W a' (P.drop 1) → (W.cell? ⟨gr, k, none⟩ = some (.string x) ∧ Trk w0 gr ss (some ⟨b, o, none⟩) P W) → Calls Tryd.prog 15 #[.string R, .string x, .int .i64 (k : Int), .int .i64 (ss.length : Int), .slice a' (P.length - 1) (cp - 1)] W fun e w' => e = .returned (.bool false) ∧ (w'.cell? ⟨gr, k, none⟩ = some (.string x) ∧ Trk w0 gr ss (some ⟨b, o, none⟩) P w')) := by
                intro a' W ha hW
                have h := HI.out R x (k : Int) (ss.length : Int) a' (cp - 1) (P.drop 1) W (by omega) z1 (by omega) (by omega) (by omega) (by omega) (by rw [HDL.out]; omega) (by rw [HDL.out]; omega) (by omega) ha (fun s hs => HPS.out s (List.mem_of_mem_drop hs)) (HT.out _ hW.2.2.2)
                rw [HDL.out, HSH.out (by omega) R x] at h
                refine h.mono ?_
                rintro e w' ⟨he, hb'⟩
                have := hW.2.step hb'
                exact ⟨he, by rw [← HX.out]; exact this.cell hlt1, this⟩
              have hcp0 : (1 : Int) ≤ (cp : Int) := by omega
              have hp1' : (1 : Int) ≤ (P.length : Int) := by omega
              have hd : decide ((0 : Int) < (P.length : Int)) = true := decide_eq_true (by omega)
              have hpn : 0 < P.length := by omega
              have hpe : ¬ P = [] := fun e => by rw [e] at hpn; exact absurd hpn (by decide)
              by_cases hcp : cp = 1
              · have HSO : Hid (∀ W : World, (W.cell? ⟨gr, k, none⟩ = some (.string x) ∧ Trk w0 gr ss (some ⟨b, o, none⟩) P W) → StrO W (some ⟨b, o, none⟩) (P.drop 1)) := fun W _ => .inl (by rw [HDL.out]; omega)
                have HCI3 : Hid (∀ (W : World), (W.cell? ⟨gr, k, none⟩ = some (.string x) ∧ Trk w0 gr ss (some ⟨b, o, none⟩) P W) → Calls Tryd.prog 15 #[.string R, .string x, .int .i64 (k : Int), .int .i64 (ss.length : Int), .slice (some ⟨b, o, none⟩) (P.length - 1) 0] W fun e w' => e = .returned (.bool false) ∧ (w'.cell? ⟨gr, k, none⟩ = some (.string x) ∧ Trk w0 gr ss (some ⟨b, o, none⟩) P w')) := fun W hW => by
                  have h := HCI2.out (some ⟨b, o, none⟩) W (HSO.out W hW) hW
                  rw [show cp - 1 = 0 from by omega] at h
                  exact h
                subst hcp
                clear hP0 hAP hp1 hPl hcp0
                go_region_held3 (fun W : World => W.cell? ⟨gr, k, none⟩ = some (.string x) ∧ Trk w0 gr ss (some ⟨b, o, none⟩) P W) (first | exact HS9.out | exact HS9d.out | assumption) ((go_at_call 15; refine (HCI3.out _ (by assumption)).mono ?_; rintro e w' ⟨rfl, hw'⟩))
                all_goals
                  go_wp2_with fail
                  go_meet
                  exact ⟨rfl, hw'.2⟩
              · have HSO : Hid (∀ W : World, (W.cell? ⟨gr, k, none⟩ = some (.string x) ∧ Trk w0 gr ss (some ⟨b, o, none⟩) P W) → StrO W (some ⟨b, o + 1, none⟩) (P.drop 1)) := fun W hW => by
                  rcases hW.2.2.1 with h | ⟨b', o', he, h⟩
                  · omega
                  · injection he with he
                    injection he with e1 e2
                    subst e1 e2
                    exact tail_o h
                clear hP0 hAP
                go_region_held3 (fun W : World => W.cell? ⟨gr, k, none⟩ = some (.string x) ∧ Trk w0 gr ss (some ⟨b, o, none⟩) P W) (first | exact HS9.out | exact HS9d.out | assumption) ((go_at_call 15; refine (HCI2.out _ _ (HSO.out _ (by assumption)) (by assumption)).mono ?_; rintro e w' ⟨rfl, hw'⟩))
                all_goals
                  go_wp2_with fail
                  go_meet
                  exact ⟨rfl, hw'.2⟩
          case rest =>
            obtain ⟨rfl, HTKf⟩ := hcut
            have HAf : Hid (StrAt wc gr 0 ss) := HTKf.out.1
            have hbf : Below w0.heap.size w0 wc := HTKf.out.2.2
            clear HTKf
            go_wp2
            go_roundw
            case rel =>
              have R' : ∃ k' : Nat, k' ≤ ss.length ∧ k' ≤ 10 ∧ Value.int .i64 ((k : Int) + 1) = .int .i64 k' ∧ Hid (StrAt wc gr 0 ss) ∧ Below w0.heap.size w0 wc := ⟨k + 1, by omega, by omega, by go_num, HAf, hbf⟩
              first | exact R' | ((repeat apply Exists.intro); exact ⟨R', rfl⟩)
            case measure => simp [intOf]; omega
      · have HE : Hid (¬ (k < ss.length ∧ k < 10)) := hlt
        by_cases hl1 : (k : Int) < (ss.length : Int)
        · have hl2 : ¬ (k : Int) < 10 := by omega
          clear hlt
          go_wp2
          go_ret
          exact ⟨rfl, hb⟩
        · clear hlt
          go_wp2
          go_ret
          exact ⟨rfl, hb⟩
end Go.Proofs.YtfljibpodcbmlaaDoor
