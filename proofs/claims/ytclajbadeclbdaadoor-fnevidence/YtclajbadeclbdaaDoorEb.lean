/- Whom the two Blame tell: rising, each once. Conditions: rows of at most 2 to the 20 votes, the table of the hash. -/
import Derived.Test.YtclajbadeclbdaaDoorEin
import Derived.Test.YtclajbadeclbdaaDoorSc
import Derived.Test.YtclajbadeclbdaaDoorHE
namespace Go.Proofs.YtclajbadeclbdaaDoor
open Go.RowKit
open Num
set_option linter.unusedVariables false
theorem compact_facts {d : Array Int} (hs : ∀ i j, i ≤ j → j < d.size → d[i]! ≤ d[j]!) : ∀ m, m ≤ d.size → (Lib.compactUpTo d m).Pairwise (· < ·) ∧ ∀ z, z ∈ Lib.compactUpTo d m ↔ ∃ j, j < m ∧ d[j]! = z
  | 0, _ => by
    exact ⟨List.Pairwise.nil, fun z => ⟨fun h => absurd h List.not_mem_nil, fun ⟨j, hj, _⟩ => absurd hj (Nat.not_lt_zero _)⟩⟩
  | m + 1, hm => by
    obtain ⟨h1, h2⟩ := compact_facts hs m (by omega)
    rw [Lib.compactUpTo_succ]
    cases hk : Lib.keeps d m with
    | true =>
      rw [if_pos rfl]
      have hlt : ∀ z ∈ Lib.compactUpTo d m, z < d[m]! := fun z hz => by
        obtain ⟨j, hj, rfl⟩ := (h2 z).1 hz
        unfold Lib.keeps at hk
        rw [decide_eq_true_iff] at hk
        rcases hk with h0 | hne
        · omega
        · have a1 := hs j (m - 1) (by omega) (by omega)
          have a2 := hs (m - 1) m (by omega) (by omega)
          omega
      refine ⟨List.pairwise_append.2 ⟨h1, List.pairwise_singleton _ _, fun a ha b hb => ?_⟩, fun z => ?_⟩
      · rw [List.mem_singleton] at hb; subst hb; exact hlt a ha
      · rw [List.mem_append, h2, List.mem_singleton]
        constructor
        · rintro (⟨j, hj, e⟩ | rfl)
          · exact ⟨j, by omega, e⟩
          · exact ⟨m, by omega, rfl⟩
        · rintro ⟨j, hj, e⟩
          by_cases hjm : j = m
          · subst hjm; exact .inr e.symm
          · exact .inl ⟨j, by omega, e⟩
    | false =>
      rw [if_neg (by simp), List.append_nil]
      unfold Lib.keeps at hk
      rw [decide_eq_false_iff_not] at hk
      have hm0 : m ≠ 0 := fun e => hk (.inl e)
      have he : d[m]! = d[m - 1]! := by
        by_cases e : d[m]! = d[m - 1]!
        · exact e
        · exact absurd (.inr e) hk
      refine ⟨h1, fun z => ?_⟩
      rw [h2]
      constructor
      · rintro ⟨j, hj, e⟩; exact ⟨j, by omega, e⟩
      · rintro ⟨j, hj, e⟩
        by_cases hjm : j = m
        · subst hjm; exact ⟨j - 1, by omega, by rw [← he]; exact e⟩
        · exact ⟨j, by omega, e⟩
theorem compact_sorted {zs : List Int} (h : zs.Pairwise (· ≤ ·)) : (Lib.compact zs).Pairwise (· < ·) ∧ ∀ z, z ∈ Lib.compact zs ↔ z ∈ zs := by
  have hg : ∀ j, j < zs.length → zs.toArray[j]! = zs[j]! := fun j hj => by simp
  obtain ⟨h1, h2⟩ := compact_facts (d := zs.toArray) (fun i j hij hj => by
    have hj' : j < zs.length := by simpa using hj
    rw [hg i (by omega), hg j hj', getElem!_pos zs i (by omega), getElem!_pos zs j hj']
    rcases Nat.lt_or_eq_of_le hij with hlt | rfl
    · exact List.pairwise_iff_getElem.1 h i j (by omega) hj' hlt
    · exact Int.le_refl _) zs.length (by simp)
  refine ⟨h1, fun z => ?_⟩
  unfold Lib.compact
  rw [h2]
  constructor
  · rintro ⟨j, hj, e⟩
    rw [hg j hj, getElem!_pos zs j hj] at e
    rw [← e]; exact List.getElem_mem hj
  · intro hz
    obtain ⟨j, hj, e⟩ := List.getElem_of_mem hz
    exact ⟨j, hj, by rw [hg j hj, getElem!_pos zs j hj]; exact e⟩
theorem srt_sorted (zs : List Int) : (srt zs).Pairwise (· ≤ ·) := by
  have tr : ∀ a b c : Int, decide (a ≤ b) = true → decide (b ≤ c) = true → decide (a ≤ c) = true := fun a b c h1 h2 => by simp only [decide_eq_true_eq] at *; omega
  have tot : ∀ a b : Int, (decide (a ≤ b) || decide (b ≤ a)) = true := fun a b => by simp only [Bool.or_eq_true, decide_eq_true_eq]; omega
  exact (List.pairwise_mergeSort tr tot zs).imp fun {a b} h => by simpa using h
theorem blame_eq (L : List Sv) : Lib.compact (srt (culp (evs L))) = bl L := by
  obtain ⟨h1, h2⟩ := compact_sorted (srt_sorted (culp (evs L)))
  have h3 : (bl L).Pairwise (· < ·) := upN_sorted _ _
  have hp : (Lib.compact (srt (culp (evs L)))).Perm (bl L) := by
    refine (List.perm_ext_iff_of_nodup (h1.imp fun {a b} h => by omega) (h3.imp fun {a b} h => by omega)).2 fun z => ?_
    rw [h2, ← culp_bl]
    exact (List.mergeSort_perm (culp (evs L)) _).mem_iff
  exact List.Perm.eq_of_pairwise (fun a b _ _ x y => by omega) h1 h3 hp
theorem culp_len (L : List Sv) : (culp (evs L)).length ≤ L.length := by
  unfold culp; rw [List.length_map]
  exact Nat.le_trans (full_len _) (evs_len _)
set_option maxHeartbeats 3200000 in
set_option maxRecDepth 100000 in
theorem impl_blame (a : Option Addr) (L : List Sv) (cap : Nat) (w : World) (hl : YO w a L) (hlen : L.length ≤ 1048576) (hT : Tab w) :
    Calls Tryd.prog 10 #[.slice a L.length cap] w fun e w' => ∃ q, e = .returned q ∧ OwnI w' w.heap.size q (bl L) ∧ Below w.heap.size w w' := by
  obtain ⟨i0, hinf, hz0, hz1, hz2⟩ := infoI
  have kI := evid_in a L cap w hl hlen hT
  have HBL : Hid (Lib.compact (srt (culp (evs L))) = bl L) := blame_eq L
  have HCL : Hid ((culp (evs L)).length ≤ 1048576) := by have := culp_len L; show _ ≤ _; omega
  have HGL : Hid ((full (evs L)).length ≤ 1048576) := by have := full_len (evs L); have := evs_len L; show _ ≤ _; omega
  have HCD : Hid (culp (evs L) = (full (evs L)).map fun e => e.1.x.v) := rfl
  clear hl hT
  generalize full (evs L) = G at *
  generalize culp (evs L) = C at *
  generalize bl L = Z at *
  go_enter Tryd.func10, Tryd.ntmps10
  go_wp2_with fail
  refine kI.mono ?_
  rintro ee w1 ⟨v1, rfl, hO, b1⟩
  obtain ⟨p, c1, rfl, hE, -, -⟩ := hO.o
  have HE : Hid (EO w1 p G) := hE
  have HB1 : Hid (Below w.heap.size w w1) := b1
  clear hO hE b1 kI
  go_wp2
  go_loopw [9, 3] (fun iv ov wr => ∃ (k : Nat) (q : Value), k ≤ G.length ∧ iv = .int .i64 k ∧ q = ov ∧ Hid (OwnI wr w1.heap.size q ((G.take k).map fun e => e.1.x.v)) ∧ Hid (Below w1.heap.size w1 wr)) (fun iv _ _ => G.length - (intOf iv).toNat)
  case atStart => exact ⟨0, _, Nat.zero_le _, rfl, rfl, World.ownsRow_nil _ _ _ _, Below.refl _ _⟩
  case round =>
    obtain ⟨k, q, hk, rfl, rfl, HO, HB⟩ := hrel
    by_cases hlt : k < G.length
    · have hltz : (k : Int) < (G.length : Int) := by omega
      rcases HE.out with h0 | ⟨pp, rfl, hq, hc⟩
      · omega
      have hck := fun c hc' => (HB.out.cell (p := ⟨pp, k * 12 + c, none⟩) hq).trans (hc k hlt c hc')
      have HT := List.take_succ_eq_append_getElem hlt
      obtain ⟨e, he⟩ : ∃ e, G[k] = e := ⟨_, rfl⟩
      rw [he] at hck HT
      have HTk : Hid ((G.take (k + 1)).map (fun e => e.1.x.v) = (G.take k).map (fun e => e.1.x.v) ++ [e.1.x.v]) := by show _ = _; rw [HT, List.map_append]; rfl
      clear hc HT he
      have hd := twelve (e := e) (a := e.1) (b := e.2.getD zSv) rfl hck
      clear hck
      have kC := fun W => impl_culpr e.1 (e.2.getD zSv) W
      have hlk : ((G.take k).map fun e => e.1.x.v).length = k := by rw [List.length_map, List.length_take]; omega
      generalize ((G.take k).map fun e => e.1.x.v) = X at *
      generalize e.2.getD zSv = y at *
      obtain ⟨x, ob⟩ := e
      obtain ⟨⟨h, r, s, i, v⟩, g⟩ := x
      obtain ⟨⟨h', r', s', i', v'⟩, g'⟩ := y
      unfold eV at kC
      simp only at kC hd HTk
      obtain ⟨c0, c1, c2, c3, c4, c5, c6, c7, c8, c9, c10, c11⟩ := hd
      obtain ⟨wa, hwa⟩ : ∃ W, wr.alloc (.cells [.int .i64 h, .int .i64 r, .int .i64 s, .string i, .int .i64 v, .string g, .int .i64 h', .int .i64 r', .int .i64 s', .string i', .int .i64 v', .string g'].toArray 34) = W := ⟨_, rfl⟩
      have HY : Hid (Blk wa wr.heap.size [.int .i64 h, .int .i64 r, .int .i64 s, .string i, .int .i64 v, .string g, .int .i64 h', .int .i64 r', .int .i64 s', .string i', .int .i64 v', .string g'] 34) := by rw [← hwa]; exact blk_new wr _ _
      have HOa : Hid (OwnI wa w1.heap.size q X) := by rw [← hwa]; exact World.ownsRow.alloc HO.out _
      have HBa : Hid (Below w1.heap.size w1 wa) := by rw [← hwa]; exact HB.out.alloc HB.out.size _
      have z0 := HY.out.cell 0 rfl
      have z1 := HY.out.cell 1 rfl
      have z2 := HY.out.cell 2 rfl
      have z3 := HY.out.cell 3 rfl
      have z4 := HY.out.cell 4 rfl
      have z5 := HY.out.cell 5 rfl
      have z6 := HY.out.cell 6 rfl
      have z7 := HY.out.cell 7 rfl
      have z8 := HY.out.cell 8 rfl
      have z9 := HY.out.cell 9 rfl
      have z10 := HY.out.cell 10 rfl
      have z11 := HY.out.cell 11 rfl
      go_wp2_with fail
      clear c0 c1 c2 c3 c4 c5 c6 c7 c8 c9 c10 c11 z0 z1 z2 z3 z4 z5 z6 z7 z8 z9 z10 z11 hwa HO HB
      refine (kC _).mono ?_
      rintro ee w3 ⟨rfl, b3⟩
      have HO3 : Hid (OwnI w3 w1.heap.size q X) := own_hold HOa.out b3
      have HB3 : Hid (Below w1.heap.size w1 w3) := HBa.out.trans (b3.mono HBa.out.size)
      clear HY HOa HBa b3 kC
      have HO4 : Hid (OwnI (w3.alloc (.cells #[.int .i64 v] 3)) w1.heap.size q X) := World.ownsRow.alloc HO3.out _
      have hsz := HB3.out.size
      have hGl := HGL.out
      go_wp2_with (first | (at_builtin; refine wpList_append_own _ rfl _ _ 26 rfl w1.heap.size 3 i0 (.int .i64 0) 1 8 Tryd.underlying26 hinf hz0 hz1 hz2 rfl (by decide) _ _ _ rfl HO4.out ⟨w3.heap.size, 0, none⟩ 1 1 [i64v v] rfl rfl (one_int w3 v) (i64v_one [v]) (by unfold maxLen; omega) (by omega) (by simp; omega) ?_; intro v9 w9 hown9 hgrow9 _) | fail)
      have HO9 : Hid (OwnI w9 w1.heap.size v9 ((G.take (k + 1)).map fun e => e.1.x.v)) := by show OwnI _ _ _ _; rw [HTk.out]; exact own_snocI hown9
      have HB9 : Hid (Below w1.heap.size w1 w9) := (HB3.out.alloc HB3.out.size _).grown hgrow9 (by simp; omega) (fun j hj => (World.ownsRow.lt HO4.out j hj).1)
      clear hown9 hgrow9 HO4 HO3 HB3
      go_wp2
      go_roundw
      case rel =>
        have RR : ∃ (k0 : Nat) (q0 : Value), k0 ≤ G.length ∧ Value.int .i64 ((k : Int) + 1) = .int .i64 k0 ∧ q0 = v9 ∧ Hid (OwnI w9 w1.heap.size q0 ((G.take k0).map fun e => e.1.x.v)) ∧ Hid (Below w1.heap.size w1 w9) := ⟨k + 1, v9, by omega, by go_num, rfl, HO9, HB9⟩
        first | exact RR | ((repeat apply Exists.intro); exact ⟨RR, rfl⟩) | ((repeat apply Exists.intro); exact ⟨rfl, RR⟩)
      case measure => simp [intOf]; omega
    · have hltz : ¬ (k : Int) < (G.length : Int) := by omega
      have HOC : Hid (OwnI wr w1.heap.size q C) := by
        have h1 := HO.out
        rw [List.take_of_length_le (by omega), ← HCD.out] at h1; exact h1
      have HBw : Hid (Below w.heap.size w wr) := HB1.out.trans (HB.out.mono HB1.out.size)
      have hsz := HB.out.size
      have hs1 := HB1.out.size
      have kS := fun W (h : OwnI W w1.heap.size q C) (hB : w1.heap.size ≤ W.heap.size) => sort_own q C w1.heap.size W h hB HCL.out
      have kP := fun W (h : OwnI W w1.heap.size q (srt C)) (hB : w1.heap.size ≤ W.heap.size) => compact_own q (srt C) w1.heap.size W h hB (by unfold srt; rw [List.length_mergeSort]; exact HCL.out)
      clear HO HB HE
      go_wp2_with fail
      refine (kS _ HOC.out (by omega)).mono ?_
      rintro ee w5 ⟨rfl, ho5, b5⟩
      have HO5 : Hid (OwnI w5 w1.heap.size q (srt C)) := ho5
      have HB5 : Hid (Below w.heap.size w w5) := HBw.out.trans (b5.mono hs1)
      have hs5 : w1.heap.size ≤ w5.heap.size := Nat.le_trans hsz b5.size
      clear ho5 b5 kS
      go_wp2_with fail
      refine (kP _ HO5.out hs5).mono ?_
      rintro ee w6 ⟨q6, rfl, ho6, b6⟩
      have HO6 : Hid (OwnI w6 w1.heap.size q6 Z) := by show OwnI _ _ _ _; rw [← HBL.out]; exact ho6
      have HB6 : Hid (Below w.heap.size w w6) := HB5.out.trans (b6.mono hs1)
      clear ho6 b6 kP
      go_wp2
      go_ret
      exact ⟨_, rfl, own_less HO6.out hs1, HB6.out⟩
set_option maxHeartbeats 3200000 in
set_option maxRecDepth 100000 in
theorem spec_blame (a : Option Addr) (L : List Sv) (cap : Nat) (w : World) (hl : YO w a L) (hlen : L.length ≤ 9223372036854775807) :
    Calls Tryd.prog 12 #[.slice a L.length cap] w fun e w' => ∃ q, e = .returned q ∧ OwnI w' w.heap.size q (bl L) ∧ Below w.heap.size w w' := by
  obtain ⟨i0, hinf, hz0, hz1, hz2⟩ := infoI
  have HL : Hid (YO w a L) := hl
  have kF := fun (z : Int) W (h : YO W a L) => spec_find a L cap z W h hlen
  have HO0 : Hid (OwnI (w.alloc (.cells #[] 3)) w.heap.size (.slice (some ⟨w.heap.size, 0, none⟩) 0 0) []) := World.ownsRow_made w #[] 0 (Nat.le_refl _) (by decide) rfl
  have HB0 : Hid (Below w.heap.size w (w.alloc (.cells #[] 3))) := below_one _ _
  have HY : Hid (∀ k : Nat, (fe L ((k : Int) + 1)).isSome = true → upN (fun z => (fe L z).isSome) (k + 1) = upN (fun z => (fe L z).isSome) k ++ [(k : Int) + 1]) := fun k h => upN_yes (p := fun z => (fe L z).isSome) h
  have HN : Hid (∀ k : Nat, (fe L ((k : Int) + 1)).isSome = false → upN (fun z => (fe L z).isSome) (k + 1) = upN (fun z => (fe L z).isSome) k) := fun k h => upN_no (p := fun z => (fe L z).isSome) h
  have HU0 : Hid (upN (fun z => (fe L z).isSome) 0 = []) := rfl
  have HUl : Hid (∀ n, (upN (fun z => (fe L z).isSome) n).length ≤ n) := upN_len _
  have HUe : Hid (upN (fun z => (fe L z).isSome) 99 = bl L) := rfl
  clear hl
  generalize upN (fun z => (fe L z).isSome) = U at *
  generalize bl L = Z at *
  go_enter Tryd.func12, Tryd.ntmps12
  go_wp2
  go_loopw [4, 3] (fun vv ov wr => ∃ (k : Nat) (q : Value), k ≤ 99 ∧ vv = .int .i64 ((k : Int) + 1) ∧ q = ov ∧ Hid (OwnI wr w.heap.size q (U k)) ∧ Hid (Below w.heap.size w wr)) (fun vv _ _ => 100 - (intOf vv).toNat)
  case atStart => exact ⟨0, _, by omega, rfl, rfl, by show OwnI _ _ _ _; rw [HU0.out]; exact HO0.out, HB0⟩
  case round =>
    obtain ⟨k, q, hk, rfl, rfl, HO, HB⟩ := hrel
    clear HO0 HB0
    by_cases hlt : k < 99
    · have hltz : (k : Int) + 1 ≤ 99 := by omega
      have kF' := kF ((k : Int) + 1)
      have HYk := HY.out k
      have HNk := HN.out k
      have HYk' : Hid ((fe L ((k : Int) + 1)).isSome = true → U (k + 1) = U k ++ [(k : Int) + 1]) := HYk
      have HNk' : Hid ((fe L ((k : Int) + 1)).isSome = false → U (k + 1) = U k) := HNk
      clear HYk HNk
      obtain ⟨z, hz⟩ : ∃ z, (k : Int) + 1 = z := ⟨_, rfl⟩
      have HZ : Hid ((k : Int) + 1 = z) := hz
      have hzl : 1 ≤ z := by omega
      have hzu : z ≤ 99 := by omega
      rw [hz] at hltz kF' HYk' HNk' ⊢
      clear hz
      have kE : ∃ o, oV (fe L z) = o := ⟨_, rfl⟩
      generalize (fe L z).isSome = t at *
      obtain ⟨⟨⟨h, r, s, i, v⟩, g⟩, ⟨⟨h', r', s', i', v'⟩, g'⟩, hoe⟩ : ∃ (a b : Sv), oV (fe L z) = eV a b := by
        cases fe L z with
        | none => exact ⟨zSv, zSv, rfl⟩
        | some u => exact ⟨u.1, u.2, rfl⟩
      rw [hoe] at kF'
      unfold eV at kF'
      clear kE hoe
      go_wp2_with fail
      refine (kF' _ (HL.out.below HB.out)).mono ?_
      rintro ee w2 ⟨rfl, b2⟩
      have HO2 : Hid (OwnI w2 w.heap.size q (U k)) := own_hold HO.out b2
      have HB2 : Hid (Below w.heap.size w w2) := HB.out.trans (b2.mono HB.out.size)
      clear HO HB b2
      obtain ⟨wa, hwa⟩ : ∃ W, w2.alloc (.cells [.int .i64 h, .int .i64 r, .int .i64 s, .string i, .int .i64 v, .string g, .int .i64 h', .int .i64 r', .int .i64 s', .string i', .int .i64 v', .string g'].toArray 34) = W := ⟨_, rfl⟩
      have HOa : Hid (OwnI wa w.heap.size q (U k)) := by rw [← hwa]; exact World.ownsRow.alloc HO2.out _
      have HBa : Hid (Below w.heap.size w wa) := by rw [← hwa]; exact HB2.out.alloc HB2.out.size _
      clear HO2 HB2
      cases t
      · have HN2 : Hid (OwnI wa w.heap.size q (U (k + 1))) := by show OwnI _ _ _ _; rw [HNk'.out (by trivial)]; exact HOa.out
        go_wp2
        go_roundw
        case rel =>
          have RR : ∃ (k0 : Nat) (q0 : Value), k0 ≤ 99 ∧ Value.int .i64 (z + 1) = .int .i64 ((k0 : Int) + 1) ∧ q0 = q ∧ Hid (OwnI wa w.heap.size q0 (U k0)) ∧ Hid (Below w.heap.size w wa) := ⟨k + 1, q, by omega, by have := HZ.out; rw [← this]; go_num, rfl, HN2, HBa⟩
          first | exact RR | ((repeat apply Exists.intro); exact ⟨RR, rfl⟩) | ((repeat apply Exists.intro); exact ⟨rfl, RR⟩) | ((repeat apply Exists.intro); exact RR)
        case measure => simp [intOf]; omega
      · have HO4 : Hid (OwnI (wa.alloc (.cells #[.int .i64 z] 3)) w.heap.size q (U k)) := World.ownsRow.alloc HOa.out _
        have hsz := HBa.out.size
        have hul := HUl.out k
        go_wp2_with (first | (at_builtin; refine wpList_append_own _ rfl _ _ 26 rfl w.heap.size 3 i0 (.int .i64 0) 1 8 Tryd.underlying26 hinf hz0 hz1 hz2 rfl (by decide) _ _ _ rfl HO4.out ⟨wa.heap.size, 0, none⟩ 1 1 [i64v z] rfl rfl (one_int wa z) (i64v_one [z]) (by unfold maxLen; omega) (by omega) (by simp; omega) ?_; intro v9 w9 hown9 hgrow9 _) | fail)
        have HO9 : Hid (OwnI w9 w.heap.size v9 (U (k + 1))) := by
          show OwnI _ _ _ _
          rw [HYk'.out (by trivial)]; exact own_snocI hown9
        have HB9 : Hid (Below w.heap.size w w9) := (HBa.out.alloc HBa.out.size _).grown hgrow9 (by simp; omega) (fun j hj => (World.ownsRow.lt HO4.out j hj).1)
        clear hown9 hgrow9 HO4 HOa HBa hwa
        go_wp2
        go_roundw
        case rel =>
          have RR : ∃ (k0 : Nat) (q0 : Value), k0 ≤ 99 ∧ Value.int .i64 (z + 1) = .int .i64 ((k0 : Int) + 1) ∧ q0 = v9 ∧ Hid (OwnI w9 w.heap.size q0 (U k0)) ∧ Hid (Below w.heap.size w w9) := ⟨k + 1, v9, by omega, by have := HZ.out; rw [← this]; go_num, rfl, HO9, HB9⟩
          first | exact RR | ((repeat apply Exists.intro); exact ⟨RR, rfl⟩) | ((repeat apply Exists.intro); exact ⟨rfl, RR⟩) | ((repeat apply Exists.intro); exact RR)
        case measure => simp [intOf]; omega
    · have hltz : ¬ (k : Int) + 1 ≤ 99 := by omega
      obtain rfl : k = 99 := by omega
      have HF : Hid (OwnI wr w.heap.size q Z) := by show OwnI _ _ _ _; rw [← HUe.out]; exact HO.out
      go_wp2
      go_ret
      exact ⟨_, rfl, HF.out, HB.out⟩
end Go.Proofs.YtclajbadeclbdaaDoor
