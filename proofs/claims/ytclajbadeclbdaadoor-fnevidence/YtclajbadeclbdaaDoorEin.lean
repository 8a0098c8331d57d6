/- What evidenceIn answers: those places that have two votes, in the order of their first votes; old memory stays. Conditions: a row of at most 2 to the 20 votes, the table of the hash. -/
import Derived.Test.YtclajbadeclbdaaDoorEk
import Derived.Deep.RegionHeld3
import Derived.Deep.AppendLies
import Derived.Deep.CutBlock
import Derived.Deep.DeepCutAuto
namespace Go.Proofs.YtclajbadeclbdaaDoor
open Go.RowKit Go.Maps
open Num
set_option linter.unusedVariables false
theorem infoEf : ∃ i, Tryd.prog.info? 34 = some i ∧ i.zero = some (.agg #[.int .i64 0, .int .i64 0, .int .i64 0, .string ⟨#[]⟩, .int .i64 0, .string ⟨#[]⟩, .int .i64 0, .int .i64 0, .int .i64 0, .string ⟨#[]⟩, .int .i64 0, .string ⟨#[]⟩]) ∧ i.size = 12 ∧ i.bytes = 128 :=
  info_parts (by kernel_rfl)
theorem zero3 (w : World) : (zeroValue 3).run Tryd.prog w = .ok (.int .i64 0) w := by kernel_rfl
theorem lt_wf {k : Nat} (h : k ≤ 1048576) : (Lit.int .i64 (k : Int)).wf = true := WalkArith.wf_i64 (by omega)
theorem own_base {w : World} {B B' : Nat} {v : Value} {F : List Ent} (h : OwnE w B v F) (hB : B' ≤ B) : OwnE w B' v F :=
  ⟨h.1, h.2.imp id fun ⟨g, cap, cur, h1, h2, h3⟩ => ⟨g, cap, cur, h1, Nat.le_trans hB h2, h3⟩⟩
theorem own_apart {w w' : World} {B m : Nat} {v : Value} {F : List Ent} (h : OwnE w B v F) (hg : w.grownBy w' (some m)) (hm : m < B) : OwnE w' B v F :=
  World.ownsRow.kept h hg (by
    cases hv : v.ownBlock with
    | none => exact .inl rfl
    | some x => exact .inr (fun e => by injection e with e; have := (World.ownsRow.lt h x hv).1; omega))
theorem map_apart {w w' : World} {B m n : Nat} {v : Value} {F : List Ent} {D : DataW Unit} (hM : w.ownsMap Tryd.prog 71 (plainElem Tryd.prog 3) m n D) (h : OwnE w B v F) (hg : w.grownBy w' v.ownBlock) (hm : m < B) : w'.ownsMap Tryd.prog 71 (plainElem Tryd.prog 3) m n D :=
  hM.kept hg (fun e => by have := (World.ownsRow.lt h m e.symm).1; omega)
theorem one_ent (w : World) (e : Ent) (p : Nat) (hp : p = w.heap.size) : ∀ j u, (entL e)[j]? = some u → (w.alloc (.cells (entL e).toArray 34)).cell? ((⟨p, 0, none⟩ : Addr).add j) = some u := by
  intro j u hj
  subst hp
  rw [add_at, cell_of_row _ _ j (entL e).toArray 34 (0, 0) (heap_alloc_new _ _)]
  rw [← hj]; simp
set_option maxHeartbeats 6400000 in
set_option maxRecDepth 100000 in
theorem evid_in (a : Option Addr) (L : List Sv) (cap : Nat) (w : World) (hl : YO w a L) (hlen : L.length ≤ 1048576) (hT : Tab w) :
    Calls Tryd.prog 33 #[.slice a L.length cap] w fun e w' => ∃ v, e = .returned v ∧ OwnE w' w.heap.size v (full (evs L)) ∧ Below w.heap.size w w' := by
  obtain ⟨i0, hinf, hz0, hz1, hz2⟩ := infoEf
  have HL : Hid (YO w a L) := hl
  have HTa : Hid (Tab w) := hT
  clear hl hT
  have hmm := @run_makeMap Tryd.prog
  have HM0 : Hid ((w.alloc (.map #[] 0)).ownsMap (H := Unit) Tryd.prog 71 (plainElem Tryd.prog 3) w.heap.size 0 (.map [])) := World.ownsMap_made w Tryd.prog 71 (plainElem Tryd.prog 3)
  have HB0 : Hid (Below w.heap.size w (w.alloc (.map #[] 0))) := below_one _ _
  have kDl := fun (v : Value) (W : World) (h : OwnE W (w.heap.size + 1) v (evs L)) => delete_func v (evs L) (w.heap.size + 1) W h (evs_two L) (by have := evs_len L; omega)
  go_enter Tryd.func33, Tryd.ntmps33
  go_wp2
  go_loopw [12, 3] (fun iv ov wr => ∃ (k : Nat) (q : Value) (D : DataW Unit), k ≤ L.length ∧ iv = .int .i64 k ∧ q = ov ∧ Hid (OwnE wr (w.heap.size + 1) q (evs (L.take k))) ∧ Hid (wr.ownsMap Tryd.prog 71 (plainElem Tryd.prog 3) w.heap.size k D) ∧ Hid (MP D (evs (L.take k))) ∧ Hid (Below w.heap.size w wr)) (fun iv _ _ => L.length - (intOf iv).toNat)
  case atStart => exact ⟨0, _, .map [], Nat.zero_le _, rfl, rfl, OwnE.nil _ _, HM0, MP.start, HB0⟩
  case round =>
    obtain ⟨k, q, D, hk, rfl, rfl, HE, HM, HMP, HB⟩ := hrel
    clear HM0 HB0
    have hmw : w.heap.size < wr.heap.size := HM.out.lt
    by_cases hlt : k < L.length
    · have hltz : (k : Int) < (L.length : Int) := by omega
      rcases HL.out with h0 | ⟨b, o, rfl, hY⟩
      · omega
      have hbw := hY.lt (by omega)
      have hc := (hY.below HB.out hbw).six k hlt
      clear hY kDl
      have HS1 := evs_step hlt
      obtain ⟨y, hy⟩ : ∃ y, L[k] = y := ⟨_, rfl⟩
      rw [hy] at HS1 hc
      have HST : Hid (evs (L.take (k + 1)) = stepE (evs (L.take k)) y) := HS1
      have HFl : Hid ((evs (L.take k)).length ≤ k) := by have := evs_len (L.take k); rw [List.length_take] at this; show _ ≤ _; omega
      have HGF : Hid (GF (evs (L.take k))) := evs_good _
      have HSF : Hid (SF (evs (L.take k))) := evs_two _
      clear HS1 hy
      generalize evs (L.take k) = F at *
      obtain ⟨qa, qc, rfl, -, hqc, hqm⟩ := HE.out.o
      have kS := fun W (hT : Tab W) => impl_sgd y W hT
      have kP := fun W => impl_place y.x W
      have HVO : Hid (sgB y = true → voB y.x = true) := sg_vo
      have HNO : Hid (sgB y = false → stepE F y = F) := stepE_no
      have HNEW : Hid (sgB y = true → inF F y.x = false → stepE F y = F ++ [(y, none)]) := stepE_new
      have HOLD : Hid (sgB y = true → inF F y.x = true → stepE F y = F.map (upd y)) := stepE_old
      have HUPD : Hid (sgB y = true → ∀ j (hj : j < F.length), plc F[j].1.x y.x = true → F.map (upd y) = (bif F[j].2.isNone && !decide (F[j].1.x.i = y.x.i) then F.set j (F[j].1, some y) else F)) := fun hs j hj hp => map_upd HGF.out hs hj hp
      have HMN : Hid (sgB y = true → inF F y.x = false → IsMap D → MP (D.put (pk y.x) (.lit (.int .i64 (F.length : Int)))) (F ++ [(y, none)])) := fun hs hi hD => HMP.out.new HGF.out hD hs hi
      have HMU : Hid (MP D (F.map (upd y))) := HMP.out.upd y
      have hkey : voB y.x = true → keyOf Tryd.prog 71 (pV y.x) = some (pk y.x) := keyOf_place
      have HHAS : Hid (sgB y = true → has D (pk y.x) = inF F y.x) := fun hs => HMP.out.2 _ (sg_vo hs)
      have HAT : Hid (inF F y.x = true → ∀ z, ∃ j, ∃ hj : j < F.length, plc F[j].1.x y.x = true ∧ D.atKey (pk y.x) z = .lit (.int .i64 (j : Int))) := fun hi z => HMP.out.at hi z
      obtain ⟨kl, hkl⟩ : ∃ kl, pk y.x = kl := ⟨_, rfl⟩
      rw [hkl] at hkey HHAS HAT HMN
      have HKI : Hid (WideAt.IsKeyLit kl) := by rw [← hkl]; exact pk_key _
      clear hkl
      generalize sgB y = t at *
      generalize inF F y.x = fi at *
      obtain ⟨⟨h, r, s, i, v⟩, g⟩ := y
      unfold yV at kS
      unfold tV pV at kP
      unfold pV at hkey
      simp only at kS kP hc hkey
      obtain ⟨c0, c1, c2, c3, c4, c5⟩ := hc
      obtain ⟨wa, hwa⟩ : ∃ W, wr.alloc (.cells [.int .i64 h, .int .i64 r, .int .i64 s, .string i, .int .i64 v, .string g].toArray 32) = W := ⟨_, rfl⟩
      have HY : Hid (Blk wa wr.heap.size [.int .i64 h, .int .i64 r, .int .i64 s, .string i, .int .i64 v, .string g] 32) := by rw [← hwa]; exact blk_new wr _ _
      have HEa : Hid (OwnE wa (w.heap.size + 1) (.slice qa F.length qc) F) := by rw [← hwa]; exact World.ownsRow.alloc HE.out _
      have HMa : Hid (wa.ownsMap Tryd.prog 71 (plainElem Tryd.prog 3) w.heap.size k D) := by rw [← hwa]; exact HM.out.alloc _
      have HBa : Hid (Below w.heap.size w wa) := by rw [← hwa]; exact HB.out.alloc HB.out.size _
      have z0 := HY.out.cell 0 rfl
      have z1 := HY.out.cell 1 rfl
      have z2 := HY.out.cell 2 rfl
      have z3 := HY.out.cell 3 rfl
      have z4 := HY.out.cell 4 rfl
      have z5 := HY.out.cell 5 rfl
      go_wp2_with fail
      clear c0 c1 c2 c3 c4 c5 hwa HE HM HB z0 z1 z2 z3 z4 z5
      refine (kS _ (HTa.out.below HBa.out HTa.out.pos)).mono ?_
      rintro ee w3 ⟨rfl, b3⟩
      have HY3 : Hid (Blk w3 wr.heap.size [.int .i64 h, .int .i64 r, .int .i64 s, .string i, .int .i64 v, .string g] 32) := HY.out.below b3 HY.out.lt
      have HE3 : Hid (OwnE w3 (w.heap.size + 1) (.slice qa F.length qc) F) := own_hold HEa.out b3
      have HM3 : Hid (w3.ownsMap Tryd.prog 71 (plainElem Tryd.prog 3) w.heap.size k D) := HMa.out.kept (grown_of (r := none) b3) (by simp)
      have HB3 : Hid (Below w.heap.size w w3) := HBa.out.trans (b3.mono HBa.out.size)
      clear HY HEa HMa HBa b3 kS
      cases t
      · have HN1 : Hid (OwnE w3 (w.heap.size + 1) (.slice qa F.length qc) (evs (L.take (k + 1)))) := by show OwnE _ _ _ _; rw [HST.out, HNO.out (by trivial)]; exact HE3.out
        have HN2 : Hid (MP D (evs (L.take (k + 1)))) := by show MP _ _; rw [HST.out, HNO.out (by trivial)]; exact HMP.out
        go_wp2
        go_roundw
        case rel =>
          have R : ∃ (k0 : Nat) (q0 : Value) (D0 : DataW Unit), k0 ≤ L.length ∧ Value.int .i64 ((k : Int) + 1) = .int .i64 k0 ∧ q0 = (.slice qa F.length qc) ∧ Hid (OwnE w3 (w.heap.size + 1) q0 (evs (L.take k0))) ∧ Hid (w3.ownsMap Tryd.prog 71 (plainElem Tryd.prog 3) w.heap.size k0 D0) ∧ Hid (MP D0 (evs (L.take k0))) ∧ Hid (Below w.heap.size w w3) := ⟨k + 1, (.slice qa F.length qc), D, by omega, by go_num, rfl, HN1, HM3.out.mono (by omega), HN2, HB3⟩
          first | exact R | ((repeat apply Exists.intro); exact ⟨R, rfl⟩) | ((repeat apply Exists.intro); exact ⟨rfl, R⟩) | ((repeat apply Exists.intro); exact R)
        case measure => simp [intOf]; omega
      · have hkey2 := hkey (HVO.out (by trivial))
        have HHAS2 : Hid (has D kl = fi) := HHAS.out (by trivial)
        clear hkey HVO HNO HHAS
        have y0 := HY3.out.cell 0 rfl
        have y1 := HY3.out.cell 1 rfl
        have y2 := HY3.out.cell 2 rfl
        have y3 := HY3.out.cell 3 rfl
        have y4 := HY3.out.cell 4 rfl
        have y5 := HY3.out.cell 5 rfl
        go_wp2_with fail
        clear y0 y1 y2 y3 y4 y5
        refine (kP _).mono ?_
        rintro ee w4 ⟨rfl, b4⟩
        have HY4 : Hid (Blk w4 wr.heap.size [.int .i64 h, .int .i64 r, .int .i64 s, .string i, .int .i64 v, .string g] 32) := HY3.out.below b4 HY3.out.lt
        have HE4 : Hid (OwnE w4 (w.heap.size + 1) (.slice qa F.length qc) F) := own_hold HE3.out b4
        have HM4 : Hid (w4.ownsMap Tryd.prog 71 (plainElem Tryd.prog 3) w.heap.size k D) := HM3.out.kept (grown_of (r := none) b4) (by simp)
        have HB4 : Hid (Below w.heap.size w w4) := HB3.out.trans (b4.mono HB3.out.size)
        clear HY3 HE3 HM3 HB3 b4
        have HH4 : Hid (has D kl = fi) := HHAS2
        cases fi
        · have hh := HH4.out
          have y0 := HY4.out.cell 0 rfl
          have y1 := HY4.out.cell 1 rfl
          have y2 := HY4.out.cell 2 rfl
          have y3 := HY4.out.cell 3 rfl
          have y4 := HY4.out.cell 4 rfl
          have y5 := HY4.out.cell 5 rfl
          go_wp2_with (first | (at_lookup; refine wpList_lookup_own_ok_int _ rfl _ _ 81 rfl 71 3 .i64 lawP Tryd.underlying81 Tryd.underlying3 (zero3 _) w.heap.size k D rfl HM4.out _ kl rfl hkey2 ?_; intro c hat hwc) | fail)
          refine (kP _).mono ?_
          rintro ee w5 ⟨rfl, b5⟩
          have HY5 : Hid (Blk w5 wr.heap.size [.int .i64 h, .int .i64 r, .int .i64 s, .string i, .int .i64 v, .string g] 32) := HY4.out.below b5 HY4.out.lt
          have HE5 : Hid (OwnE w5 (w.heap.size + 1) (.slice qa F.length qc) F) := own_hold HE4.out b5
          have HM5 : Hid (w5.ownsMap Tryd.prog 71 (plainElem Tryd.prog 3) w.heap.size k D) := HM4.out.kept (grown_of (r := none) b5) (by simp)
          have HB5 : Hid (Below w.heap.size w w5) := HB4.out.trans (b5.mono HB4.out.size)
          clear HY4 HE4 HM4 HB4 b5 hat hwc y0 y1 y2 y3 y4 y5
          have hFk : F.length ≤ 1048576 := by have := HFl.out; omega
          go_upto_region 10 with (first | (at_mapUpdate; refine wpList_mapUpdate_own _ rfl _ _ _ 81 rfl 71 3 lawP Tryd.underlying81 _ w.heap.size _ _ rfl HM5.out (by unfold maxLen; omega) _ _ _ rfl rfl hkey2 _ [] (plainElem_int Tryd.underlying3 (lt_wf (by have := HFl.out; omega))) ?_; intro w6 hown6 hg6) | fail)
          have HY6 : Hid (Blk w6 wr.heap.size [.int .i64 h, .int .i64 r, .int .i64 s, .string i, .int .i64 v, .string g] 32) := HY5.out.grown hg6 (by simp; omega)
          have HE6 : Hid (OwnE w6 (w.heap.size + 1) (.slice qa F.length qc) F) := own_apart HE5.out hg6 (by omega)
          have HM6 : Hid (w6.ownsMap Tryd.prog 71 (plainElem Tryd.prog 3) w.heap.size (k + 1) (D.put kl (.lit (.int .i64 (F.length : Int))))) := hown6
          have HB6 : Hid (Below w.heap.size w w6) := HB5.out.grown hg6 HB5.out.size (fun j hj => by injection hj; omega)
          have HMP6 : Hid (MP (D.put kl (.lit (.int .i64 (F.length : Int)))) (F ++ [(⟨⟨h, r, s, i, v⟩, g⟩, none)])) := HMN.out (by trivial) (by trivial) HM5.out.isMap
          have HNE : Hid (evs (L.take (k + 1)) = F ++ [(⟨⟨h, r, s, i, v⟩, g⟩, none)]) := by show _ = _; rw [HST.out]; exact HNEW.out (by trivial) (by trivial)
          clear hown6 hg6 HY5 HE5 HM5 HB5
          obtain ⟨w7, hw7⟩ : ∃ W, w6.alloc (.cells [.int .i64 h, .int .i64 r, .int .i64 s, .string i, .int .i64 v, .string g, .int .i64 0, .int .i64 0, .int .i64 0, .string ⟨#[]⟩, .int .i64 0, .string ⟨#[]⟩].toArray 34) = W := ⟨_, rfl⟩
          have HC : Hid (∀ j u, (entL (⟨⟨h, r, s, i, v⟩, g⟩, none))[j]? = some u → w7.cell? ((⟨w6.heap.size, 0, none⟩ : Addr).add j) = some u) := by rw [← hw7]; exact one_ent w6 (⟨⟨h, r, s, i, v⟩, g⟩, none) _ rfl
          have HE7 : Hid (OwnE w7 (w.heap.size + 1) (.slice qa F.length qc) F) := by rw [← hw7]; exact World.ownsRow.alloc HE6.out _
          have HM7 : Hid (w7.ownsMap Tryd.prog 71 (plainElem Tryd.prog 3) w.heap.size (k + 1) (D.put kl (.lit (.int .i64 (F.length : Int))))) := by rw [← hw7]; exact HM6.out.alloc _
          have HB7 : Hid (Below w.heap.size w w7) := by rw [← hw7]; exact HB6.out.alloc HB6.out.size _
          have hs7 : w7.heap.size = w6.heap.size + 1 := by rw [← hw7]; simp
          have hs6 := HM6.out.lt
          have y0 := HY6.out.cell 0 rfl
          have y1 := HY6.out.cell 1 rfl
          have y2 := HY6.out.cell 2 rfl
          have y3 := HY6.out.cell 3 rfl
          have y4 := HY6.out.cell 4 rfl
          have y5 := HY6.out.cell 5 rfl
          clear HE6 HM6 HB6
          go_wp2_with (first | (at_builtin; refine wpList_append_own _ rfl _ _ 61 rfl (w.heap.size + 1) 34 i0 (.agg #[.int .i64 0, .int .i64 0, .int .i64 0, .string ⟨#[]⟩, .int .i64 0, .string ⟨#[]⟩, .int .i64 0, .int .i64 0, .int .i64 0, .string ⟨#[]⟩, .int .i64 0, .string ⟨#[]⟩]) 12 128 Tryd.underlying61 hinf hz0 hz1 hz2 rfl (by decide) _ _ _ rfl HE7.out ⟨w6.heap.size, 0, none⟩ 1 1 (entL (⟨⟨h, r, s, i, v⟩, g⟩, none)) rfl rfl HC.out (e_one _) (by unfold maxLen; omega) (by omega) (by rw [hs7]; omega) ?_; intro v' w8 hown' hgrow _) | fail)
          have HE8 : Hid (OwnE w8 (w.heap.size + 1) v' (F ++ [(⟨⟨h, r, s, i, v⟩, g⟩, none)])) := own_snocE hown'
          have HM8 : Hid (w8.ownsMap Tryd.prog 71 (plainElem Tryd.prog 3) w.heap.size (k + 1) (D.put kl (.lit (.int .i64 (F.length : Int))))) := map_apart HM7.out HE7.out hgrow (by omega)
          have HB8 : Hid (Below w.heap.size w w8) := HB7.out.grown hgrow HB7.out.size (fun j hj => by have := (World.ownsRow.lt HE7.out j hj).1; omega)
          have HN1 : Hid (OwnE w8 (w.heap.size + 1) v' (evs (L.take (k + 1)))) := by show OwnE _ _ _ _; rw [HNE.out]; exact HE8.out
          have HN2 : Hid (MP (D.put kl (.lit (.int .i64 (F.length : Int)))) (evs (L.take (k + 1)))) := by show MP _ _; rw [HNE.out]; exact HMP6.out
          clear hown' hgrow HE7 HM7 HB7 HE8 HMP6 HC hw7 hs7
          go_wp2
          go_roundw
          case rel =>
            have R : ∃ (k0 : Nat) (q0 : Value) (D0 : DataW Unit), k0 ≤ L.length ∧ Value.int .i64 ((k : Int) + 1) = .int .i64 k0 ∧ q0 = v' ∧ Hid (OwnE w8 (w.heap.size + 1) q0 (evs (L.take k0))) ∧ Hid (w8.ownsMap Tryd.prog 71 (plainElem Tryd.prog 3) w.heap.size k0 D0) ∧ Hid (MP D0 (evs (L.take k0))) ∧ Hid (Below w.heap.size w w8) := ⟨k + 1, v', _, by omega, by go_num, rfl, HN1, HM8, HN2, HB8⟩
            first | exact R | ((repeat apply Exists.intro); exact ⟨R, rfl⟩) | ((repeat apply Exists.intro); exact ⟨rfl, R⟩) | ((repeat apply Exists.intro); exact R)
          case measure => simp [intOf]; omega
        · have hh := HH4.out
          obtain ⟨j, hj, hp, hatj⟩ := HAT.out (by trivial) (.lit (.int .i64 0))
          have HUJ := HUPD.out (by trivial) j hj hp
          have HUJ2 : Hid (stepE F ⟨⟨h, r, s, i, v⟩, g⟩ = (bif F[j].2.isNone && !decide (F[j].1.x.i = i) then F.set j (F[j].1, some ⟨⟨h, r, s, i, v⟩, g⟩) else F)) := by show _ = _; rw [HOLD.out (by trivial) (by trivial)]; exact HUJ
          have hatj' : Hid (D.atKey kl (.lit (.int .i64 0)) = .lit (.int .i64 (j : Int))) := hatj
          have hpos : ∀ b, F[j].2 = some b → 1 ≤ b.x.h := fun b hb => sgB_pos (evB_iff.1 (HSF.out _ (List.getElem_mem hj) b hb)).2.1
          have HMPU : Hid (MP D (F.map (upd ⟨⟨h, r, s, i, v⟩, g⟩))) := HMU
          have HST2 : Hid (evs (L.take (k + 1)) = F.map (upd ⟨⟨h, r, s, i, v⟩, g⟩)) := by show _ = _; rw [HST.out]; exact HOLD.out (by trivial) (by trivial)
          have HFS : Hid (F.map (upd ⟨⟨h, r, s, i, v⟩, g⟩) = (bif F[j].2.isNone && !decide (F[j].1.x.i = i) then F.set j (F[j].1, some ⟨⟨h, r, s, i, v⟩, g⟩) else F)) := HUJ
          clear hp hatj HUJ HUJ2 HUPD HOLD HST HMU
          rcases HE4.out.form with ⟨_, h2⟩ | ⟨p, cap', hq, hBp, hpw, _, _⟩
          · exact absurd hj (by rw [h2]; exact Nat.not_lt_zero _)
          obtain ⟨rfl, rfl⟩ : qa = some ⟨p, 0, none⟩ ∧ qc = cap' := by
            simp only [Value.slice.injEq, true_and] at hq; exact hq
          clear hq
          have y0 := HY4.out.cell 0 rfl
          have y1 := HY4.out.cell 1 rfl
          have y2 := HY4.out.cell 2 rfl
          have y3 := HY4.out.cell 3 rfl
          have y4 := HY4.out.cell 4 rfl
          have y5 := HY4.out.cell 5 rfl
          go_wp2_with (first | (at_lookup; refine wpList_lookup_own_ok_int _ rfl _ _ 81 rfl 71 3 .i64 lawP Tryd.underlying81 Tryd.underlying3 (zero3 _) w.heap.size k D rfl HM4.out _ kl rfl hkey2 ?_; intro c hat hwc) | fail)
          obtain rfl : c = (j : Int) := by
            have h1 := hatj'.out
            rw [hat] at h1
            simpa using h1
          clear hat hwc hatj' y0 y1 y2 y3 y4 y5
          have hjz : (j : Int) < (F.length : Int) := by omega
          have hck := fun c hc' => HE4.out.at j hj c hc'
          obtain ⟨e, he⟩ : ∃ e, F[j] = e := ⟨_, rfl⟩
          rw [he] at hck hpos
          have kO := fun W => impl_open e hpos W
          have HFS2 : Hid (F.map (upd ⟨⟨h, r, s, i, v⟩, g⟩) = (bif e.2.isNone && !decide (e.1.x.i = i) then F.set j (e.1, some ⟨⟨h, r, s, i, v⟩, g⟩) else F)) := by rw [← he]; exact HFS
          have hd := twelve (e := e) (a := e.1) (b := e.2.getD zSv) rfl hck
          have HFj : Hid (F[j].1 = e.1) := by rw [he]; rfl
          clear he hck hpos HFS
          generalize e.2.getD zSv = yy at *
          generalize e.2.isNone = op at *
          obtain ⟨xx, ob⟩ := e
          simp only at kO hd HFS2 HFj
          obtain ⟨⟨h1, r1, s1, i1, v1⟩, g1⟩ := xx
          obtain ⟨⟨h2, r2, s2, i2, v2⟩, g2⟩ := yy
          unfold eV at kO
          simp only at kO hd HFS2
          have hSd : (fun W : World => (W.cell? ⟨p, j * 12, none⟩ = some (Value.int .i64 h1) ∧ W.cell? ⟨p, j * 12 + 1, none⟩ = some (Value.int .i64 r1) ∧ W.cell? ⟨p, j * 12 + 2, none⟩ = some (Value.int .i64 s1) ∧ W.cell? ⟨p, j * 12 + 3, none⟩ = some (Value.string i1) ∧ W.cell? ⟨p, j * 12 + 4, none⟩ = some (Value.int .i64 v1) ∧ W.cell? ⟨p, j * 12 + 5, none⟩ = some (Value.string g1) ∧ W.cell? ⟨p, j * 12 + 6, none⟩ = some (Value.int .i64 h2) ∧ W.cell? ⟨p, j * 12 + 7, none⟩ = some (Value.int .i64 r2) ∧ W.cell? ⟨p, j * 12 + 8, none⟩ = some (Value.int .i64 s2) ∧ W.cell? ⟨p, j * 12 + 9, none⟩ = some (Value.string i2) ∧ W.cell? ⟨p, j * 12 + 10, none⟩ = some (Value.int .i64 v2) ∧ W.cell? ⟨p, j * 12 + 11, none⟩ = some (Value.string g2)) ∧ (W.cell? ⟨wr.heap.size, 0, none⟩ = some (Value.int .i64 h) ∧ W.cell? ⟨wr.heap.size, 1, none⟩ = some (Value.int .i64 r) ∧ W.cell? ⟨wr.heap.size, 2, none⟩ = some (Value.int .i64 s) ∧ W.cell? ⟨wr.heap.size, 3, none⟩ = some (Value.string i) ∧ W.cell? ⟨wr.heap.size, 4, none⟩ = some (Value.int .i64 v) ∧ W.cell? ⟨wr.heap.size, 5, none⟩ = some (Value.string g))) w4.drew := ⟨hd, ⟨HY4.out.cell 0 rfl, HY4.out.cell 1 rfl, HY4.out.cell 2 rfl, HY4.out.cell 3 rfl, HY4.out.cell 4 rfl, HY4.out.cell 5 rfl⟩⟩
          have hwr : wr.heap.size < w4.drew.heap.size := HY4.out.lt
          have hpd : p < w4.drew.heap.size := hpw
          have HS0 : Hid ((fun W : World => (W.cell? ⟨p, j * 12, none⟩ = some (Value.int .i64 h1) ∧ W.cell? ⟨p, j * 12 + 1, none⟩ = some (Value.int .i64 r1) ∧ W.cell? ⟨p, j * 12 + 2, none⟩ = some (Value.int .i64 s1) ∧ W.cell? ⟨p, j * 12 + 3, none⟩ = some (Value.string i1) ∧ W.cell? ⟨p, j * 12 + 4, none⟩ = some (Value.int .i64 v1) ∧ W.cell? ⟨p, j * 12 + 5, none⟩ = some (Value.string g1) ∧ W.cell? ⟨p, j * 12 + 6, none⟩ = some (Value.int .i64 h2) ∧ W.cell? ⟨p, j * 12 + 7, none⟩ = some (Value.int .i64 r2) ∧ W.cell? ⟨p, j * 12 + 8, none⟩ = some (Value.int .i64 s2) ∧ W.cell? ⟨p, j * 12 + 9, none⟩ = some (Value.string i2) ∧ W.cell? ⟨p, j * 12 + 10, none⟩ = some (Value.int .i64 v2) ∧ W.cell? ⟨p, j * 12 + 11, none⟩ = some (Value.string g2)) ∧ (W.cell? ⟨wr.heap.size, 0, none⟩ = some (Value.int .i64 h) ∧ W.cell? ⟨wr.heap.size, 1, none⟩ = some (Value.int .i64 r) ∧ W.cell? ⟨wr.heap.size, 2, none⟩ = some (Value.int .i64 s) ∧ W.cell? ⟨wr.heap.size, 3, none⟩ = some (Value.string i) ∧ W.cell? ⟨wr.heap.size, 4, none⟩ = some (Value.int .i64 v) ∧ W.cell? ⟨wr.heap.size, 5, none⟩ = some (Value.string g))) w4.drew) := hSd
          have HSB : Hid (∀ W, Below w4.drew.heap.size w4.drew W → (fun W : World => (W.cell? ⟨p, j * 12, none⟩ = some (Value.int .i64 h1) ∧ W.cell? ⟨p, j * 12 + 1, none⟩ = some (Value.int .i64 r1) ∧ W.cell? ⟨p, j * 12 + 2, none⟩ = some (Value.int .i64 s1) ∧ W.cell? ⟨p, j * 12 + 3, none⟩ = some (Value.string i1) ∧ W.cell? ⟨p, j * 12 + 4, none⟩ = some (Value.int .i64 v1) ∧ W.cell? ⟨p, j * 12 + 5, none⟩ = some (Value.string g1) ∧ W.cell? ⟨p, j * 12 + 6, none⟩ = some (Value.int .i64 h2) ∧ W.cell? ⟨p, j * 12 + 7, none⟩ = some (Value.int .i64 r2) ∧ W.cell? ⟨p, j * 12 + 8, none⟩ = some (Value.int .i64 s2) ∧ W.cell? ⟨p, j * 12 + 9, none⟩ = some (Value.string i2) ∧ W.cell? ⟨p, j * 12 + 10, none⟩ = some (Value.int .i64 v2) ∧ W.cell? ⟨p, j * 12 + 11, none⟩ = some (Value.string g2)) ∧ (W.cell? ⟨wr.heap.size, 0, none⟩ = some (Value.int .i64 h) ∧ W.cell? ⟨wr.heap.size, 1, none⟩ = some (Value.int .i64 r) ∧ W.cell? ⟨wr.heap.size, 2, none⟩ = some (Value.int .i64 s) ∧ W.cell? ⟨wr.heap.size, 3, none⟩ = some (Value.string i) ∧ W.cell? ⟨wr.heap.size, 4, none⟩ = some (Value.int .i64 v) ∧ W.cell? ⟨wr.heap.size, 5, none⟩ = some (Value.string g))) W) := fun W hb => ⟨⟨(hb.cell (p := ⟨p, j * 12, none⟩) hpd).trans hSd.1.1, (hb.cell (p := ⟨p, j * 12 + 1, none⟩) hpd).trans hSd.1.2.1, (hb.cell (p := ⟨p, j * 12 + 2, none⟩) hpd).trans hSd.1.2.2.1, (hb.cell (p := ⟨p, j * 12 + 3, none⟩) hpd).trans hSd.1.2.2.2.1, (hb.cell (p := ⟨p, j * 12 + 4, none⟩) hpd).trans hSd.1.2.2.2.2.1, (hb.cell (p := ⟨p, j * 12 + 5, none⟩) hpd).trans hSd.1.2.2.2.2.2.1, (hb.cell (p := ⟨p, j * 12 + 6, none⟩) hpd).trans hSd.1.2.2.2.2.2.2.1, (hb.cell (p := ⟨p, j * 12 + 7, none⟩) hpd).trans hSd.1.2.2.2.2.2.2.2.1, (hb.cell (p := ⟨p, j * 12 + 8, none⟩) hpd).trans hSd.1.2.2.2.2.2.2.2.2.1, (hb.cell (p := ⟨p, j * 12 + 9, none⟩) hpd).trans hSd.1.2.2.2.2.2.2.2.2.2.1, (hb.cell (p := ⟨p, j * 12 + 10, none⟩) hpd).trans hSd.1.2.2.2.2.2.2.2.2.2.2.1, (hb.cell (p := ⟨p, j * 12 + 11, none⟩) hpd).trans hSd.1.2.2.2.2.2.2.2.2.2.2.2⟩, ⟨(hb.cell (p := ⟨wr.heap.size, 0, none⟩) hwr).trans hSd.2.1, (hb.cell (p := ⟨wr.heap.size, 1, none⟩) hwr).trans hSd.2.2.1, (hb.cell (p := ⟨wr.heap.size, 2, none⟩) hwr).trans hSd.2.2.2.1, (hb.cell (p := ⟨wr.heap.size, 3, none⟩) hwr).trans hSd.2.2.2.2.1, (hb.cell (p := ⟨wr.heap.size, 4, none⟩) hwr).trans hSd.2.2.2.2.2.1, (hb.cell (p := ⟨wr.heap.size, 5, none⟩) hwr).trans hSd.2.2.2.2.2.2⟩⟩
          have HYd : Hid (Blk w4.drew wr.heap.size [.int .i64 h, .int .i64 r, .int .i64 s, .string i, .int .i64 v, .string g] 32) := HY4.out
          have HEd : Hid (OwnE w4.drew (w.heap.size + 1) (.slice (some ⟨p, 0, none⟩) F.length qc) F) := HE4.out
          have HMd : Hid (w4.drew.ownsMap Tryd.prog 71 (plainElem Tryd.prog 3) w.heap.size k D) := HM4.out.drew
          have HBd : Hid (Below w.heap.size w w4.drew) := HB4.out.drew
          clear hSd hd HY4 HE4 HM4 HB4 hpw
          go_wp2_with fail
          cases op
          · refine wp_region_held_drew (S := (fun W : World => (W.cell? ⟨p, j * 12, none⟩ = some (Value.int .i64 h1) ∧ W.cell? ⟨p, j * 12 + 1, none⟩ = some (Value.int .i64 r1) ∧ W.cell? ⟨p, j * 12 + 2, none⟩ = some (Value.int .i64 s1) ∧ W.cell? ⟨p, j * 12 + 3, none⟩ = some (Value.string i1) ∧ W.cell? ⟨p, j * 12 + 4, none⟩ = some (Value.int .i64 v1) ∧ W.cell? ⟨p, j * 12 + 5, none⟩ = some (Value.string g1) ∧ W.cell? ⟨p, j * 12 + 6, none⟩ = some (Value.int .i64 h2) ∧ W.cell? ⟨p, j * 12 + 7, none⟩ = some (Value.int .i64 r2) ∧ W.cell? ⟨p, j * 12 + 8, none⟩ = some (Value.int .i64 s2) ∧ W.cell? ⟨p, j * 12 + 9, none⟩ = some (Value.string i2) ∧ W.cell? ⟨p, j * 12 + 10, none⟩ = some (Value.int .i64 v2) ∧ W.cell? ⟨p, j * 12 + 11, none⟩ = some (Value.string g2)) ∧ (W.cell? ⟨wr.heap.size, 0, none⟩ = some (Value.int .i64 h) ∧ W.cell? ⟨wr.heap.size, 1, none⟩ = some (Value.int .i64 r) ∧ W.cell? ⟨wr.heap.size, 2, none⟩ = some (Value.int .i64 s) ∧ W.cell? ⟨wr.heap.size, 3, none⟩ = some (Value.string i) ∧ W.cell? ⟨wr.heap.size, 4, none⟩ = some (Value.int .i64 v) ∧ W.cell? ⟨wr.heap.size, 5, none⟩ = some (Value.string g)))) (by kernel_rfl) ?_ (fun hHeld => ?_)
            · exact HS0.out
            generalize w4.drew = wd at *
            refine wpAnyH_take (i := 0) (oi := { dst := some 42, op := Go.Op.move (Go.Operand.tmp 3), type := 61, pos := "l12_evid.go:69", after := #[], guard := none }) (v := ?_) rfl (by kernel_rfl) (by kernel_rfl) (by kernel_rfl) (fun _ _ _ h => h) (Or.inl ⟨by rfl, ?_⟩) hHeld ?_
            rotate_left
            · intro w hSw
              try dsimp only at hSw
              go_simp
              try (with_reducible rfl)
            simp only [Act.put, List.setIfInBounds_toArray, List.set_cons_zero, List.set_cons_succ]
            refine wpAnyH_take (i := 1) (oi := { dst := some 43, op := Go.Op.move (Go.Operand.tmp 7), type := 3, pos := "l12_evid.go:69", after := #[], guard := none }) (v := ?_) rfl (by kernel_rfl) (by kernel_rfl) (by kernel_rfl) (fun _ _ _ h => h) (Or.inl ⟨by rfl, ?_⟩) hHeld ?_
            rotate_left
            · intro w hSw
              try dsimp only at hSw
              go_simp
              try (with_reducible rfl)
            simp only [Act.put, List.setIfInBounds_toArray, List.set_cons_zero, List.set_cons_succ]
            refine wpAnyH_take (i := 2) (oi := { dst := some 44, op := Go.Op.indexAddr 61 (Go.Operand.tmp 42) (Go.Operand.tmp 43), type := 0, pos := "l12_evid.go:69", after := #[{ on := 0, ground := Go.Ground.data }, { on := 1, ground := Go.Ground.data }], guard := none }) (v := ?_) rfl (by kernel_rfl) (by kernel_rfl) (by kernel_rfl) (fun _ _ _ h => h) (Or.inl ⟨by rfl, ?_⟩) hHeld ?_
            rotate_left
            · intro w hSw
              try dsimp only at hSw
              go_simp
              try (with_reducible rfl)
            simp only [Act.put, List.setIfInBounds_toArray, List.set_cons_zero, List.set_cons_succ]
            refine wpAnyH_take (i := 3) (oi := { dst := some 45, op := Go.Op.load 34 (Go.Operand.tmp 44), type := 34, pos := "l12_evid.go:69", after := #[{ on := 2, ground := Go.Ground.data }], guard := none }) (v := ?_) rfl (by kernel_rfl) (by kernel_rfl) (by kernel_rfl) (fun _ _ _ h => h) (Or.inl ⟨by rfl, ?_⟩) hHeld ?_
            rotate_left
            · intro w hSw
              try dsimp only at hSw
              go_simp
              try (with_reducible rfl)
            simp only [Act.put, List.setIfInBounds_toArray, List.set_cons_zero, List.set_cons_succ]
            refine wpAnyH_ready (rs := [4]) (by kernel_rfl) (by decide) ?_
            refine AllReadyH.cons (o := { dst := some 46, op := Go.Op.call { callee := Go.Callee.value (Go.Operand.func 48), args := #[Go.Operand.tmp 45], argTypes := #[34] }, type := 4, pos := "l12_evid.go:69", after := #[{ on := 3, ground := Go.Ground.data }], guard := none }) rfl (fun K hK => ?_) AllReadyH.nil
            go_simp
            refine (kO _).mono ?_
            rintro ee w5 ⟨rfl, b5⟩
            have HS5 := HSB.out w5 b5
            have HY5 : Hid (Blk w5 wr.heap.size [.int .i64 h, .int .i64 r, .int .i64 s, .string i, .int .i64 v, .string g] 32) := HYd.out.below b5 HYd.out.lt
            have HE5 : Hid (OwnE w5 (w.heap.size + 1) (.slice (some ⟨p, 0, none⟩) F.length qc) F) := own_hold HEd.out b5
            have HM5 : Hid (w5.ownsMap Tryd.prog 71 (plainElem Tryd.prog 3) w.heap.size k D) := HMd.out.kept (grown_of (r := none) b5) (by simp)
            have HB5 : Hid (Below w.heap.size w w5) := HBd.out.trans (b5.mono HBd.out.size)
            refine hK.out _ _ (HS5) (fun hHeld => ?_)
            clear hK K
            try simp only [Act.put, List.setIfInBounds_toArray, List.set_cons_zero, List.set_cons_succ]
            refine wpAnyH_take (i := 5) (oi := { dst := some 47, op := Go.Op.move (Go.Operand.tmp 46), type := 4, pos := "l12_evid.go:69", after := #[{ on := 4, ground := Go.Ground.data }, { on := 4, ground := Go.Ground.chain }], guard := none }) (v := ?_) rfl (by kernel_rfl) (by kernel_rfl) (by kernel_rfl) (fun _ _ _ h => h) (Or.inl ⟨by rfl, ?_⟩) hHeld ?_
            rotate_left
            · intro w hSw
              try dsimp only at hSw
              go_simp
              try (with_reducible rfl)
            simp only [Act.put, List.setIfInBounds_toArray, List.set_cons_zero, List.set_cons_succ]
            refine wpAnyH_take (i := 6) (oi := { dst := some 48, op := Go.Op.fieldAddr 32 (Go.Operand.tmp 6) 0, type := 0, pos := "l12_evid.go:69", after := #[{ on := 5, ground := Go.Ground.guard }], guard := some (5, true) }) (v := undef) rfl (by kernel_rfl) (by kernel_rfl) (by kernel_rfl) (fun _ _ _ h => h) (Or.inr ⟨by rfl, rfl⟩) hHeld ?_
            simp only [Act.put, List.setIfInBounds_toArray, List.set_cons_zero, List.set_cons_succ]
            refine wpAnyH_take (i := 7) (oi := { dst := some 49, op := Go.Op.fieldAddr 30 (Go.Operand.tmp 48) 3, type := 0, pos := "l12_evid.go:69", after := #[{ on := 6, ground := Go.Ground.data }, { on := 5, ground := Go.Ground.guard }], guard := some (5, true) }) (v := undef) rfl (by kernel_rfl) (by kernel_rfl) (by kernel_rfl) (fun _ _ _ h => h) (Or.inr ⟨by rfl, rfl⟩) hHeld ?_
            simp only [Act.put, List.setIfInBounds_toArray, List.set_cons_zero, List.set_cons_succ]
            refine wpAnyH_take (i := 8) (oi := { dst := some 50, op := Go.Op.load 9 (Go.Operand.tmp 49), type := 9, pos := "l12_evid.go:69", after := #[{ on := 7, ground := Go.Ground.data }, { on := 5, ground := Go.Ground.guard }], guard := some (5, true) }) (v := undef) rfl (by kernel_rfl) (by kernel_rfl) (by kernel_rfl) (fun _ _ _ h => h) (Or.inr ⟨by rfl, rfl⟩) hHeld ?_
            simp only [Act.put, List.setIfInBounds_toArray, List.set_cons_zero, List.set_cons_succ]
            refine wpAnyH_take (i := 9) (oi := { dst := some 51, op := Go.Op.move (Go.Operand.tmp 3), type := 61, pos := "l12_evid.go:69", after := #[{ on := 5, ground := Go.Ground.guard }], guard := some (5, true) }) (v := undef) rfl (by kernel_rfl) (by kernel_rfl) (by kernel_rfl) (fun _ _ _ h => h) (Or.inr ⟨by rfl, rfl⟩) hHeld ?_
            simp only [Act.put, List.setIfInBounds_toArray, List.set_cons_zero, List.set_cons_succ]
            refine wpAnyH_take (i := 10) (oi := { dst := some 52, op := Go.Op.move (Go.Operand.tmp 7), type := 3, pos := "l12_evid.go:69", after := #[{ on := 5, ground := Go.Ground.guard }], guard := some (5, true) }) (v := undef) rfl (by kernel_rfl) (by kernel_rfl) (by kernel_rfl) (fun _ _ _ h => h) (Or.inr ⟨by rfl, rfl⟩) hHeld ?_
            simp only [Act.put, List.setIfInBounds_toArray, List.set_cons_zero, List.set_cons_succ]
            refine wpAnyH_take (i := 11) (oi := { dst := some 53, op := Go.Op.indexAddr 61 (Go.Operand.tmp 51) (Go.Operand.tmp 52), type := 0, pos := "l12_evid.go:69", after := #[{ on := 9, ground := Go.Ground.data }, { on := 10, ground := Go.Ground.data }, { on := 5, ground := Go.Ground.guard }], guard := some (5, true) }) (v := undef) rfl (by kernel_rfl) (by kernel_rfl) (by kernel_rfl) (fun _ _ _ h => h) (Or.inr ⟨by rfl, rfl⟩) hHeld ?_
            simp only [Act.put, List.setIfInBounds_toArray, List.set_cons_zero, List.set_cons_succ]
            refine wpAnyH_take (i := 12) (oi := { dst := some 54, op := Go.Op.fieldAddr 34 (Go.Operand.tmp 53) 0, type := 0, pos := "l12_evid.go:69", after := #[{ on := 11, ground := Go.Ground.data }, { on := 5, ground := Go.Ground.guard }], guard := some (5, true) }) (v := undef) rfl (by kernel_rfl) (by kernel_rfl) (by kernel_rfl) (fun _ _ _ h => h) (Or.inr ⟨by rfl, rfl⟩) hHeld ?_
            simp only [Act.put, List.setIfInBounds_toArray, List.set_cons_zero, List.set_cons_succ]
            refine wpAnyH_take (i := 13) (oi := { dst := some 55, op := Go.Op.fieldAddr 32 (Go.Operand.tmp 54) 0, type := 0, pos := "l12_evid.go:69", after := #[{ on := 12, ground := Go.Ground.data }, { on := 5, ground := Go.Ground.guard }], guard := some (5, true) }) (v := undef) rfl (by kernel_rfl) (by kernel_rfl) (by kernel_rfl) (fun _ _ _ h => h) (Or.inr ⟨by rfl, rfl⟩) hHeld ?_
            simp only [Act.put, List.setIfInBounds_toArray, List.set_cons_zero, List.set_cons_succ]
            refine wpAnyH_take (i := 14) (oi := { dst := some 56, op := Go.Op.fieldAddr 30 (Go.Operand.tmp 55) 3, type := 0, pos := "l12_evid.go:69", after := #[{ on := 13, ground := Go.Ground.data }, { on := 5, ground := Go.Ground.guard }], guard := some (5, true) }) (v := undef) rfl (by kernel_rfl) (by kernel_rfl) (by kernel_rfl) (fun _ _ _ h => h) (Or.inr ⟨by rfl, rfl⟩) hHeld ?_
            simp only [Act.put, List.setIfInBounds_toArray, List.set_cons_zero, List.set_cons_succ]
            refine wpAnyH_take (i := 15) (oi := { dst := some 57, op := Go.Op.load 9 (Go.Operand.tmp 56), type := 9, pos := "l12_evid.go:69", after := #[{ on := 14, ground := Go.Ground.data }, { on := 5, ground := Go.Ground.guard }], guard := some (5, true) }) (v := undef) rfl (by kernel_rfl) (by kernel_rfl) (by kernel_rfl) (fun _ _ _ h => h) (Or.inr ⟨by rfl, rfl⟩) hHeld ?_
            simp only [Act.put, List.setIfInBounds_toArray, List.set_cons_zero, List.set_cons_succ]
            refine wpAnyH_take (i := 16) (oi := { dst := some 58, op := Go.Op.binOp Go.BinOp.neq 9 (Go.Operand.tmp 50) (Go.Operand.tmp 57) 9, type := 4, pos := "l12_evid.go:69", after := #[{ on := 8, ground := Go.Ground.data }, { on := 15, ground := Go.Ground.data }, { on := 5, ground := Go.Ground.guard }], guard := some (5, true) }) (v := undef) rfl (by kernel_rfl) (by kernel_rfl) (by kernel_rfl) (fun _ _ _ h => h) (Or.inr ⟨by rfl, rfl⟩) hHeld ?_
            simp only [Act.put, List.setIfInBounds_toArray, List.set_cons_zero, List.set_cons_succ]
            refine wpAnyH_take (i := 17) (oi := { dst := some 59, op := Go.Op.pick (Go.Operand.tmp 47) (Go.Operand.tmp 58) (Go.Operand.const (Go.Value.bool false)), type := 4, pos := "l12_evid.go:69", after := #[{ on := 5, ground := Go.Ground.data }, { on := 16, ground := Go.Ground.data }], guard := none }) (v := ?_) rfl (by kernel_rfl) (by kernel_rfl) (by kernel_rfl) (fun _ _ _ h => h) (Or.inl ⟨by rfl, ?_⟩) hHeld ?_
            rotate_left
            · intro w hSw
              try dsimp only at hSw
              go_simp
              try (with_reducible rfl)
            simp only [Act.put, List.setIfInBounds_toArray, List.set_cons_zero, List.set_cons_succ]
            refine wpAnyH_take (i := 18) (oi := { dst := some 41, op := Go.Op.assign (Go.Operand.tmp 59), type := 4, pos := "l12_evid.go:69", after := #[{ on := 17, ground := Go.Ground.data }, { on := 5, ground := Go.Ground.chain }], guard := none }) (v := ?_) rfl (by kernel_rfl) (by kernel_rfl) (by kernel_rfl) (fun _ _ _ h => h) (Or.inl ⟨by rfl, ?_⟩) hHeld ?_
            rotate_left
            · intro w hSw
              try dsimp only at hSw
              go_simp
              try (with_reducible rfl)
            simp only [Act.put, List.setIfInBounds_toArray, List.set_cons_zero, List.set_cons_succ]
            refine wpAnyH_done (by kernel_rfl) ?_ _
            go_wp2_with fail
            have HNE : Hid (evs (L.take (k + 1)) = F) := by show _ = _; rw [HST2.out, HFS2.out]; rfl
            have HN1 : Hid (OwnE w5 (w.heap.size + 1) (.slice (some ⟨p, 0, none⟩) F.length qc) (evs (L.take (k + 1)))) := by show OwnE _ _ _ _; rw [HNE.out]; exact HE5.out
            have HN2 : Hid (MP D (evs (L.take (k + 1)))) := by show MP _ _; rw [HST2.out]; exact HMPU.out
            have HM6 : Hid (w5.ownsMap Tryd.prog 71 (plainElem Tryd.prog 3) w.heap.size (k + 1) D) := HM5.out.mono (by omega)
            go_roundw
            case rel =>
              have R : ∃ (k0 : Nat) (q0 : Value) (D0 : DataW Unit), k0 ≤ L.length ∧ Value.int .i64 ((k : Int) + 1) = .int .i64 k0 ∧ q0 = (.slice (some ⟨p, 0, none⟩) F.length qc) ∧ Hid (OwnE w5 (w.heap.size + 1) q0 (evs (L.take k0))) ∧ Hid (w5.ownsMap Tryd.prog 71 (plainElem Tryd.prog 3) w.heap.size k0 D0) ∧ Hid (MP D0 (evs (L.take k0))) ∧ Hid (Below w.heap.size w w5) := ⟨k + 1, (.slice (some ⟨p, 0, none⟩) F.length qc), D, by omega, by go_num, rfl, HN1, HM6, HN2, HB5⟩
              first | exact R | ((repeat apply Exists.intro); exact ⟨R, rfl⟩) | ((repeat apply Exists.intro); exact ⟨rfl, R⟩) | ((repeat apply Exists.intro); exact R)
            case measure => simp [intOf]; omega
          · by_cases hii : i1 = i
            · subst hii
              refine wp_region_held_drew (S := (fun W : World => (W.cell? ⟨p, j * 12, none⟩ = some (Value.int .i64 h1) ∧ W.cell? ⟨p, j * 12 + 1, none⟩ = some (Value.int .i64 r1) ∧ W.cell? ⟨p, j * 12 + 2, none⟩ = some (Value.int .i64 s1) ∧ W.cell? ⟨p, j * 12 + 3, none⟩ = some (Value.string i1) ∧ W.cell? ⟨p, j * 12 + 4, none⟩ = some (Value.int .i64 v1) ∧ W.cell? ⟨p, j * 12 + 5, none⟩ = some (Value.string g1) ∧ W.cell? ⟨p, j * 12 + 6, none⟩ = some (Value.int .i64 h2) ∧ W.cell? ⟨p, j * 12 + 7, none⟩ = some (Value.int .i64 r2) ∧ W.cell? ⟨p, j * 12 + 8, none⟩ = some (Value.int .i64 s2) ∧ W.cell? ⟨p, j * 12 + 9, none⟩ = some (Value.string i2) ∧ W.cell? ⟨p, j * 12 + 10, none⟩ = some (Value.int .i64 v2) ∧ W.cell? ⟨p, j * 12 + 11, none⟩ = some (Value.string g2)) ∧ (W.cell? ⟨wr.heap.size, 0, none⟩ = some (Value.int .i64 h) ∧ W.cell? ⟨wr.heap.size, 1, none⟩ = some (Value.int .i64 r) ∧ W.cell? ⟨wr.heap.size, 2, none⟩ = some (Value.int .i64 s) ∧ W.cell? ⟨wr.heap.size, 3, none⟩ = some (Value.string i1) ∧ W.cell? ⟨wr.heap.size, 4, none⟩ = some (Value.int .i64 v) ∧ W.cell? ⟨wr.heap.size, 5, none⟩ = some (Value.string g)))) (by kernel_rfl) ?_ (fun hHeld => ?_)
              · exact HS0.out
              generalize w4.drew = wd at *
              refine wpAnyH_take (i := 0) (oi := { dst := some 42, op := Go.Op.move (Go.Operand.tmp 3), type := 61, pos := "l12_evid.go:69", after := #[], guard := none }) (v := ?_) rfl (by kernel_rfl) (by kernel_rfl) (by kernel_rfl) (fun _ _ _ h => h) (Or.inl ⟨by rfl, ?_⟩) hHeld ?_
              rotate_left
              · intro w hSw
                try dsimp only at hSw
                go_simp
                try (with_reducible rfl)
              simp only [Act.put, List.setIfInBounds_toArray, List.set_cons_zero, List.set_cons_succ]
              refine wpAnyH_take (i := 1) (oi := { dst := some 43, op := Go.Op.move (Go.Operand.tmp 7), type := 3, pos := "l12_evid.go:69", after := #[], guard := none }) (v := ?_) rfl (by kernel_rfl) (by kernel_rfl) (by kernel_rfl) (fun _ _ _ h => h) (Or.inl ⟨by rfl, ?_⟩) hHeld ?_
              rotate_left
              · intro w hSw
                try dsimp only at hSw
                go_simp
                try (with_reducible rfl)
              simp only [Act.put, List.setIfInBounds_toArray, List.set_cons_zero, List.set_cons_succ]
              refine wpAnyH_take (i := 2) (oi := { dst := some 44, op := Go.Op.indexAddr 61 (Go.Operand.tmp 42) (Go.Operand.tmp 43), type := 0, pos := "l12_evid.go:69", after := #[{ on := 0, ground := Go.Ground.data }, { on := 1, ground := Go.Ground.data }], guard := none }) (v := ?_) rfl (by kernel_rfl) (by kernel_rfl) (by kernel_rfl) (fun _ _ _ h => h) (Or.inl ⟨by rfl, ?_⟩) hHeld ?_
              rotate_left
              · intro w hSw
                try dsimp only at hSw
                go_simp
                try (with_reducible rfl)
              simp only [Act.put, List.setIfInBounds_toArray, List.set_cons_zero, List.set_cons_succ]
              refine wpAnyH_take (i := 3) (oi := { dst := some 45, op := Go.Op.load 34 (Go.Operand.tmp 44), type := 34, pos := "l12_evid.go:69", after := #[{ on := 2, ground := Go.Ground.data }], guard := none }) (v := ?_) rfl (by kernel_rfl) (by kernel_rfl) (by kernel_rfl) (fun _ _ _ h => h) (Or.inl ⟨by rfl, ?_⟩) hHeld ?_
              rotate_left
              · intro w hSw
                try dsimp only at hSw
                go_simp
                try (with_reducible rfl)
              simp only [Act.put, List.setIfInBounds_toArray, List.set_cons_zero, List.set_cons_succ]
              refine wpAnyH_ready (rs := [4]) (by kernel_rfl) (by decide) ?_
              refine AllReadyH.cons (o := { dst := some 46, op := Go.Op.call { callee := Go.Callee.value (Go.Operand.func 48), args := #[Go.Operand.tmp 45], argTypes := #[34] }, type := 4, pos := "l12_evid.go:69", after := #[{ on := 3, ground := Go.Ground.data }], guard := none }) rfl (fun K hK => ?_) AllReadyH.nil
              go_simp
              refine (kO _).mono ?_
              rintro ee w5 ⟨rfl, b5⟩
              have HS5 := HSB.out w5 b5
              have HY5 : Hid (Blk w5 wr.heap.size [.int .i64 h, .int .i64 r, .int .i64 s, .string i1, .int .i64 v, .string g] 32) := HYd.out.below b5 HYd.out.lt
              have HE5 : Hid (OwnE w5 (w.heap.size + 1) (.slice (some ⟨p, 0, none⟩) F.length qc) F) := own_hold HEd.out b5
              have HM5 : Hid (w5.ownsMap Tryd.prog 71 (plainElem Tryd.prog 3) w.heap.size k D) := HMd.out.kept (grown_of (r := none) b5) (by simp)
              have HB5 : Hid (Below w.heap.size w w5) := HBd.out.trans (b5.mono HBd.out.size)
              refine hK.out _ _ (HS5) (fun hHeld => ?_)
              clear hK K
              try simp only [Act.put, List.setIfInBounds_toArray, List.set_cons_zero, List.set_cons_succ]
              refine wpAnyH_take (i := 5) (oi := { dst := some 47, op := Go.Op.move (Go.Operand.tmp 46), type := 4, pos := "l12_evid.go:69", after := #[{ on := 4, ground := Go.Ground.data }, { on := 4, ground := Go.Ground.chain }], guard := none }) (v := ?_) rfl (by kernel_rfl) (by kernel_rfl) (by kernel_rfl) (fun _ _ _ h => h) (Or.inl ⟨by rfl, ?_⟩) hHeld ?_
              rotate_left
              · intro w hSw
                try dsimp only at hSw
                go_simp
                try (with_reducible rfl)
              simp only [Act.put, List.setIfInBounds_toArray, List.set_cons_zero, List.set_cons_succ]
              refine wpAnyH_take (i := 6) (oi := { dst := some 48, op := Go.Op.fieldAddr 32 (Go.Operand.tmp 6) 0, type := 0, pos := "l12_evid.go:69", after := #[{ on := 5, ground := Go.Ground.guard }], guard := some (5, true) }) (v := ?_) rfl (by kernel_rfl) (by kernel_rfl) (by kernel_rfl) (fun _ _ _ h => h) (Or.inl ⟨by rfl, ?_⟩) hHeld ?_
              rotate_left
              · intro w hSw
                try dsimp only at hSw
                go_simp
                try (with_reducible rfl)
              simp only [Act.put, List.setIfInBounds_toArray, List.set_cons_zero, List.set_cons_succ]
              refine wpAnyH_take (i := 7) (oi := { dst := some 49, op := Go.Op.fieldAddr 30 (Go.Operand.tmp 48) 3, type := 0, pos := "l12_evid.go:69", after := #[{ on := 6, ground := Go.Ground.data }, { on := 5, ground := Go.Ground.guard }], guard := some (5, true) }) (v := ?_) rfl (by kernel_rfl) (by kernel_rfl) (by kernel_rfl) (fun _ _ _ h => h) (Or.inl ⟨by rfl, ?_⟩) hHeld ?_
              rotate_left
              · intro w hSw
                try dsimp only at hSw
                go_simp
                try (with_reducible rfl)
              simp only [Act.put, List.setIfInBounds_toArray, List.set_cons_zero, List.set_cons_succ]
              refine wpAnyH_take (i := 8) (oi := { dst := some 50, op := Go.Op.load 9 (Go.Operand.tmp 49), type := 9, pos := "l12_evid.go:69", after := #[{ on := 7, ground := Go.Ground.data }, { on := 5, ground := Go.Ground.guard }], guard := some (5, true) }) (v := ?_) rfl (by kernel_rfl) (by kernel_rfl) (by kernel_rfl) (fun _ _ _ h => h) (Or.inl ⟨by rfl, ?_⟩) hHeld ?_
              rotate_left
              · intro w hSw
                try dsimp only at hSw
                go_simp
                try (with_reducible rfl)
              simp only [Act.put, List.setIfInBounds_toArray, List.set_cons_zero, List.set_cons_succ]
              refine wpAnyH_take (i := 9) (oi := { dst := some 51, op := Go.Op.move (Go.Operand.tmp 3), type := 61, pos := "l12_evid.go:69", after := #[{ on := 5, ground := Go.Ground.guard }], guard := some (5, true) }) (v := ?_) rfl (by kernel_rfl) (by kernel_rfl) (by kernel_rfl) (fun _ _ _ h => h) (Or.inl ⟨by rfl, ?_⟩) hHeld ?_
              rotate_left
              · intro w hSw
                try dsimp only at hSw
                go_simp
                try (with_reducible rfl)
              simp only [Act.put, List.setIfInBounds_toArray, List.set_cons_zero, List.set_cons_succ]
              refine wpAnyH_take (i := 10) (oi := { dst := some 52, op := Go.Op.move (Go.Operand.tmp 7), type := 3, pos := "l12_evid.go:69", after := #[{ on := 5, ground := Go.Ground.guard }], guard := some (5, true) }) (v := ?_) rfl (by kernel_rfl) (by kernel_rfl) (by kernel_rfl) (fun _ _ _ h => h) (Or.inl ⟨by rfl, ?_⟩) hHeld ?_
              rotate_left
              · intro w hSw
                try dsimp only at hSw
                go_simp
                try (with_reducible rfl)
              simp only [Act.put, List.setIfInBounds_toArray, List.set_cons_zero, List.set_cons_succ]
              refine wpAnyH_take (i := 11) (oi := { dst := some 53, op := Go.Op.indexAddr 61 (Go.Operand.tmp 51) (Go.Operand.tmp 52), type := 0, pos := "l12_evid.go:69", after := #[{ on := 9, ground := Go.Ground.data }, { on := 10, ground := Go.Ground.data }, { on := 5, ground := Go.Ground.guard }], guard := some (5, true) }) (v := ?_) rfl (by kernel_rfl) (by kernel_rfl) (by kernel_rfl) (fun _ _ _ h => h) (Or.inl ⟨by rfl, ?_⟩) hHeld ?_
              rotate_left
              · intro w hSw
                try dsimp only at hSw
                go_simp
                try (with_reducible rfl)
              simp only [Act.put, List.setIfInBounds_toArray, List.set_cons_zero, List.set_cons_succ]
              refine wpAnyH_take (i := 12) (oi := { dst := some 54, op := Go.Op.fieldAddr 34 (Go.Operand.tmp 53) 0, type := 0, pos := "l12_evid.go:69", after := #[{ on := 11, ground := Go.Ground.data }, { on := 5, ground := Go.Ground.guard }], guard := some (5, true) }) (v := ?_) rfl (by kernel_rfl) (by kernel_rfl) (by kernel_rfl) (fun _ _ _ h => h) (Or.inl ⟨by rfl, ?_⟩) hHeld ?_
              rotate_left
              · intro w hSw
                try dsimp only at hSw
                go_simp
                try (with_reducible rfl)
              simp only [Act.put, List.setIfInBounds_toArray, List.set_cons_zero, List.set_cons_succ]
              refine wpAnyH_take (i := 13) (oi := { dst := some 55, op := Go.Op.fieldAddr 32 (Go.Operand.tmp 54) 0, type := 0, pos := "l12_evid.go:69", after := #[{ on := 12, ground := Go.Ground.data }, { on := 5, ground := Go.Ground.guard }], guard := some (5, true) }) (v := ?_) rfl (by kernel_rfl) (by kernel_rfl) (by kernel_rfl) (fun _ _ _ h => h) (Or.inl ⟨by rfl, ?_⟩) hHeld ?_
              rotate_left
              · intro w hSw
                try dsimp only at hSw
                go_simp
                try (with_reducible rfl)
              simp only [Act.put, List.setIfInBounds_toArray, List.set_cons_zero, List.set_cons_succ]
              refine wpAnyH_take (i := 14) (oi := { dst := some 56, op := Go.Op.fieldAddr 30 (Go.Operand.tmp 55) 3, type := 0, pos := "l12_evid.go:69", after := #[{ on := 13, ground := Go.Ground.data }, { on := 5, ground := Go.Ground.guard }], guard := some (5, true) }) (v := ?_) rfl (by kernel_rfl) (by kernel_rfl) (by kernel_rfl) (fun _ _ _ h => h) (Or.inl ⟨by rfl, ?_⟩) hHeld ?_
              rotate_left
              · intro w hSw
                try dsimp only at hSw
                go_simp
                try (with_reducible rfl)
              simp only [Act.put, List.setIfInBounds_toArray, List.set_cons_zero, List.set_cons_succ]
              refine wpAnyH_take (i := 15) (oi := { dst := some 57, op := Go.Op.load 9 (Go.Operand.tmp 56), type := 9, pos := "l12_evid.go:69", after := #[{ on := 14, ground := Go.Ground.data }, { on := 5, ground := Go.Ground.guard }], guard := some (5, true) }) (v := ?_) rfl (by kernel_rfl) (by kernel_rfl) (by kernel_rfl) (fun _ _ _ h => h) (Or.inl ⟨by rfl, ?_⟩) hHeld ?_
              rotate_left
              · intro w hSw
                try dsimp only at hSw
                go_simp
                try (with_reducible rfl)
              simp only [Act.put, List.setIfInBounds_toArray, List.set_cons_zero, List.set_cons_succ]
              refine wpAnyH_take (i := 16) (oi := { dst := some 58, op := Go.Op.binOp Go.BinOp.neq 9 (Go.Operand.tmp 50) (Go.Operand.tmp 57) 9, type := 4, pos := "l12_evid.go:69", after := #[{ on := 8, ground := Go.Ground.data }, { on := 15, ground := Go.Ground.data }, { on := 5, ground := Go.Ground.guard }], guard := some (5, true) }) (v := ?_) rfl (by kernel_rfl) (by kernel_rfl) (by kernel_rfl) (fun _ _ _ h => h) (Or.inl ⟨by rfl, ?_⟩) hHeld ?_
              rotate_left
              · intro w hSw
                try dsimp only at hSw
                go_simp
                try (with_reducible rfl)
              simp only [Act.put, List.setIfInBounds_toArray, List.set_cons_zero, List.set_cons_succ]
              refine wpAnyH_take (i := 17) (oi := { dst := some 59, op := Go.Op.pick (Go.Operand.tmp 47) (Go.Operand.tmp 58) (Go.Operand.const (Go.Value.bool false)), type := 4, pos := "l12_evid.go:69", after := #[{ on := 5, ground := Go.Ground.data }, { on := 16, ground := Go.Ground.data }], guard := none }) (v := ?_) rfl (by kernel_rfl) (by kernel_rfl) (by kernel_rfl) (fun _ _ _ h => h) (Or.inl ⟨by rfl, ?_⟩) hHeld ?_
              rotate_left
              · intro w hSw
                try dsimp only at hSw
                go_simp
                try (with_reducible rfl)
              simp only [Act.put, List.setIfInBounds_toArray, List.set_cons_zero, List.set_cons_succ]
              refine wpAnyH_take (i := 18) (oi := { dst := some 41, op := Go.Op.assign (Go.Operand.tmp 59), type := 4, pos := "l12_evid.go:69", after := #[{ on := 17, ground := Go.Ground.data }, { on := 5, ground := Go.Ground.chain }], guard := none }) (v := ?_) rfl (by kernel_rfl) (by kernel_rfl) (by kernel_rfl) (fun _ _ _ h => h) (Or.inl ⟨by rfl, ?_⟩) hHeld ?_
              rotate_left
              · intro w hSw
                try dsimp only at hSw
                go_simp
                try (with_reducible rfl)
              simp only [Act.put, List.setIfInBounds_toArray, List.set_cons_zero, List.set_cons_succ]
              refine wpAnyH_done (by kernel_rfl) ?_ _
              go_wp2_with fail
              have HNE : Hid (evs (L.take (k + 1)) = F) := by show _ = _; rw [HST2.out, HFS2.out]; simp
              have HN1 : Hid (OwnE w5 (w.heap.size + 1) (.slice (some ⟨p, 0, none⟩) F.length qc) (evs (L.take (k + 1)))) := by show OwnE _ _ _ _; rw [HNE.out]; exact HE5.out
              have HN2 : Hid (MP D (evs (L.take (k + 1)))) := by show MP _ _; rw [HST2.out]; exact HMPU.out
              have HM6 : Hid (w5.ownsMap Tryd.prog 71 (plainElem Tryd.prog 3) w.heap.size (k + 1) D) := HM5.out.mono (by omega)
              go_roundw
              case rel =>
                have R : ∃ (k0 : Nat) (q0 : Value) (D0 : DataW Unit), k0 ≤ L.length ∧ Value.int .i64 ((k : Int) + 1) = .int .i64 k0 ∧ q0 = (.slice (some ⟨p, 0, none⟩) F.length qc) ∧ Hid (OwnE w5 (w.heap.size + 1) q0 (evs (L.take k0))) ∧ Hid (w5.ownsMap Tryd.prog 71 (plainElem Tryd.prog 3) w.heap.size k0 D0) ∧ Hid (MP D0 (evs (L.take k0))) ∧ Hid (Below w.heap.size w w5) := ⟨k + 1, (.slice (some ⟨p, 0, none⟩) F.length qc), D, by omega, by go_num, rfl, HN1, HM6, HN2, HB5⟩
                first | exact R | ((repeat apply Exists.intro); exact ⟨R, rfl⟩) | ((repeat apply Exists.intro); exact ⟨rfl, R⟩) | ((repeat apply Exists.intro); exact R)
              case measure => simp [intOf]; omega
            · have hne : (i.toList == i1.toList) = false := by rw [beq_str]; exact decide_eq_false (fun h => hii h.symm)
              refine wp_region_held_drew (S := (fun W : World => (W.cell? ⟨p, j * 12, none⟩ = some (Value.int .i64 h1) ∧ W.cell? ⟨p, j * 12 + 1, none⟩ = some (Value.int .i64 r1) ∧ W.cell? ⟨p, j * 12 + 2, none⟩ = some (Value.int .i64 s1) ∧ W.cell? ⟨p, j * 12 + 3, none⟩ = some (Value.string i1) ∧ W.cell? ⟨p, j * 12 + 4, none⟩ = some (Value.int .i64 v1) ∧ W.cell? ⟨p, j * 12 + 5, none⟩ = some (Value.string g1) ∧ W.cell? ⟨p, j * 12 + 6, none⟩ = some (Value.int .i64 h2) ∧ W.cell? ⟨p, j * 12 + 7, none⟩ = some (Value.int .i64 r2) ∧ W.cell? ⟨p, j * 12 + 8, none⟩ = some (Value.int .i64 s2) ∧ W.cell? ⟨p, j * 12 + 9, none⟩ = some (Value.string i2) ∧ W.cell? ⟨p, j * 12 + 10, none⟩ = some (Value.int .i64 v2) ∧ W.cell? ⟨p, j * 12 + 11, none⟩ = some (Value.string g2)) ∧ (W.cell? ⟨wr.heap.size, 0, none⟩ = some (Value.int .i64 h) ∧ W.cell? ⟨wr.heap.size, 1, none⟩ = some (Value.int .i64 r) ∧ W.cell? ⟨wr.heap.size, 2, none⟩ = some (Value.int .i64 s) ∧ W.cell? ⟨wr.heap.size, 3, none⟩ = some (Value.string i) ∧ W.cell? ⟨wr.heap.size, 4, none⟩ = some (Value.int .i64 v) ∧ W.cell? ⟨wr.heap.size, 5, none⟩ = some (Value.string g)))) (by kernel_rfl) ?_ (fun hHeld => ?_)
              · exact HS0.out
              generalize w4.drew = wd at *
              refine wpAnyH_take (i := 0) (oi := { dst := some 42, op := Go.Op.move (Go.Operand.tmp 3), type := 61, pos := "l12_evid.go:69", after := #[], guard := none }) (v := ?_) rfl (by kernel_rfl) (by kernel_rfl) (by kernel_rfl) (fun _ _ _ h => h) (Or.inl ⟨by rfl, ?_⟩) hHeld ?_
              rotate_left
              · intro w hSw
                try dsimp only at hSw
                go_simp
                try (with_reducible rfl)
              simp only [Act.put, List.setIfInBounds_toArray, List.set_cons_zero, List.set_cons_succ]
              refine wpAnyH_take (i := 1) (oi := { dst := some 43, op := Go.Op.move (Go.Operand.tmp 7), type := 3, pos := "l12_evid.go:69", after := #[], guard := none }) (v := ?_) rfl (by kernel_rfl) (by kernel_rfl) (by kernel_rfl) (fun _ _ _ h => h) (Or.inl ⟨by rfl, ?_⟩) hHeld ?_
              rotate_left
              · intro w hSw
                try dsimp only at hSw
                go_simp
                try (with_reducible rfl)
              simp only [Act.put, List.setIfInBounds_toArray, List.set_cons_zero, List.set_cons_succ]
              refine wpAnyH_take (i := 2) (oi := { dst := some 44, op := Go.Op.indexAddr 61 (Go.Operand.tmp 42) (Go.Operand.tmp 43), type := 0, pos := "l12_evid.go:69", after := #[{ on := 0, ground := Go.Ground.data }, { on := 1, ground := Go.Ground.data }], guard := none }) (v := ?_) rfl (by kernel_rfl) (by kernel_rfl) (by kernel_rfl) (fun _ _ _ h => h) (Or.inl ⟨by rfl, ?_⟩) hHeld ?_
              rotate_left
              · intro w hSw
                try dsimp only at hSw
                go_simp
                try (with_reducible rfl)
              simp only [Act.put, List.setIfInBounds_toArray, List.set_cons_zero, List.set_cons_succ]
              refine wpAnyH_take (i := 3) (oi := { dst := some 45, op := Go.Op.load 34 (Go.Operand.tmp 44), type := 34, pos := "l12_evid.go:69", after := #[{ on := 2, ground := Go.Ground.data }], guard := none }) (v := ?_) rfl (by kernel_rfl) (by kernel_rfl) (by kernel_rfl) (fun _ _ _ h => h) (Or.inl ⟨by rfl, ?_⟩) hHeld ?_
              rotate_left
              · intro w hSw
                try dsimp only at hSw
                go_simp
                try (with_reducible rfl)
              simp only [Act.put, List.setIfInBounds_toArray, List.set_cons_zero, List.set_cons_succ]
              refine wpAnyH_ready (rs := [4]) (by kernel_rfl) (by decide) ?_
              refine AllReadyH.cons (o := { dst := some 46, op := Go.Op.call { callee := Go.Callee.value (Go.Operand.func 48), args := #[Go.Operand.tmp 45], argTypes := #[34] }, type := 4, pos := "l12_evid.go:69", after := #[{ on := 3, ground := Go.Ground.data }], guard := none }) rfl (fun K hK => ?_) AllReadyH.nil
              go_simp
              refine (kO _).mono ?_
              rintro ee w5 ⟨rfl, b5⟩
              have HS5 := HSB.out w5 b5
              have HY5 : Hid (Blk w5 wr.heap.size [.int .i64 h, .int .i64 r, .int .i64 s, .string i, .int .i64 v, .string g] 32) := HYd.out.below b5 HYd.out.lt
              have HE5 : Hid (OwnE w5 (w.heap.size + 1) (.slice (some ⟨p, 0, none⟩) F.length qc) F) := own_hold HEd.out b5
              have HM5 : Hid (w5.ownsMap Tryd.prog 71 (plainElem Tryd.prog 3) w.heap.size k D) := HMd.out.kept (grown_of (r := none) b5) (by simp)
              have HB5 : Hid (Below w.heap.size w w5) := HBd.out.trans (b5.mono HBd.out.size)
              refine hK.out _ _ (HS5) (fun hHeld => ?_)
              clear hK K
              try simp only [Act.put, List.setIfInBounds_toArray, List.set_cons_zero, List.set_cons_succ]
              refine wpAnyH_take (i := 5) (oi := { dst := some 47, op := Go.Op.move (Go.Operand.tmp 46), type := 4, pos := "l12_evid.go:69", after := #[{ on := 4, ground := Go.Ground.data }, { on := 4, ground := Go.Ground.chain }], guard := none }) (v := ?_) rfl (by kernel_rfl) (by kernel_rfl) (by kernel_rfl) (fun _ _ _ h => h) (Or.inl ⟨by rfl, ?_⟩) hHeld ?_
              rotate_left
              · intro w hSw
                try dsimp only at hSw
                go_simp
                try (with_reducible rfl)
              simp only [Act.put, List.setIfInBounds_toArray, List.set_cons_zero, List.set_cons_succ]
              refine wpAnyH_take (i := 6) (oi := { dst := some 48, op := Go.Op.fieldAddr 32 (Go.Operand.tmp 6) 0, type := 0, pos := "l12_evid.go:69", after := #[{ on := 5, ground := Go.Ground.guard }], guard := some (5, true) }) (v := ?_) rfl (by kernel_rfl) (by kernel_rfl) (by kernel_rfl) (fun _ _ _ h => h) (Or.inl ⟨by rfl, ?_⟩) hHeld ?_
              rotate_left
              · intro w hSw
                try dsimp only at hSw
                go_simp
                try (with_reducible rfl)
              simp only [Act.put, List.setIfInBounds_toArray, List.set_cons_zero, List.set_cons_succ]
              refine wpAnyH_take (i := 7) (oi := { dst := some 49, op := Go.Op.fieldAddr 30 (Go.Operand.tmp 48) 3, type := 0, pos := "l12_evid.go:69", after := #[{ on := 6, ground := Go.Ground.data }, { on := 5, ground := Go.Ground.guard }], guard := some (5, true) }) (v := ?_) rfl (by kernel_rfl) (by kernel_rfl) (by kernel_rfl) (fun _ _ _ h => h) (Or.inl ⟨by rfl, ?_⟩) hHeld ?_
              rotate_left
              · intro w hSw
                try dsimp only at hSw
                go_simp
                try (with_reducible rfl)
              simp only [Act.put, List.setIfInBounds_toArray, List.set_cons_zero, List.set_cons_succ]
              refine wpAnyH_take (i := 8) (oi := { dst := some 50, op := Go.Op.load 9 (Go.Operand.tmp 49), type := 9, pos := "l12_evid.go:69", after := #[{ on := 7, ground := Go.Ground.data }, { on := 5, ground := Go.Ground.guard }], guard := some (5, true) }) (v := ?_) rfl (by kernel_rfl) (by kernel_rfl) (by kernel_rfl) (fun _ _ _ h => h) (Or.inl ⟨by rfl, ?_⟩) hHeld ?_
              rotate_left
              · intro w hSw
                try dsimp only at hSw
                go_simp
                try (with_reducible rfl)
              simp only [Act.put, List.setIfInBounds_toArray, List.set_cons_zero, List.set_cons_succ]
              refine wpAnyH_take (i := 9) (oi := { dst := some 51, op := Go.Op.move (Go.Operand.tmp 3), type := 61, pos := "l12_evid.go:69", after := #[{ on := 5, ground := Go.Ground.guard }], guard := some (5, true) }) (v := ?_) rfl (by kernel_rfl) (by kernel_rfl) (by kernel_rfl) (fun _ _ _ h => h) (Or.inl ⟨by rfl, ?_⟩) hHeld ?_
              rotate_left
              · intro w hSw
                try dsimp only at hSw
                go_simp
                try (with_reducible rfl)
              simp only [Act.put, List.setIfInBounds_toArray, List.set_cons_zero, List.set_cons_succ]
              refine wpAnyH_take (i := 10) (oi := { dst := some 52, op := Go.Op.move (Go.Operand.tmp 7), type := 3, pos := "l12_evid.go:69", after := #[{ on := 5, ground := Go.Ground.guard }], guard := some (5, true) }) (v := ?_) rfl (by kernel_rfl) (by kernel_rfl) (by kernel_rfl) (fun _ _ _ h => h) (Or.inl ⟨by rfl, ?_⟩) hHeld ?_
              rotate_left
              · intro w hSw
                try dsimp only at hSw
                go_simp
                try (with_reducible rfl)
              simp only [Act.put, List.setIfInBounds_toArray, List.set_cons_zero, List.set_cons_succ]
              refine wpAnyH_take (i := 11) (oi := { dst := some 53, op := Go.Op.indexAddr 61 (Go.Operand.tmp 51) (Go.Operand.tmp 52), type := 0, pos := "l12_evid.go:69", after := #[{ on := 9, ground := Go.Ground.data }, { on := 10, ground := Go.Ground.data }, { on := 5, ground := Go.Ground.guard }], guard := some (5, true) }) (v := ?_) rfl (by kernel_rfl) (by kernel_rfl) (by kernel_rfl) (fun _ _ _ h => h) (Or.inl ⟨by rfl, ?_⟩) hHeld ?_
              rotate_left
              · intro w hSw
                try dsimp only at hSw
                go_simp
                try (with_reducible rfl)
              simp only [Act.put, List.setIfInBounds_toArray, List.set_cons_zero, List.set_cons_succ]
              refine wpAnyH_take (i := 12) (oi := { dst := some 54, op := Go.Op.fieldAddr 34 (Go.Operand.tmp 53) 0, type := 0, pos := "l12_evid.go:69", after := #[{ on := 11, ground := Go.Ground.data }, { on := 5, ground := Go.Ground.guard }], guard := some (5, true) }) (v := ?_) rfl (by kernel_rfl) (by kernel_rfl) (by kernel_rfl) (fun _ _ _ h => h) (Or.inl ⟨by rfl, ?_⟩) hHeld ?_
              rotate_left
              · intro w hSw
                try dsimp only at hSw
                go_simp
                try (with_reducible rfl)
              simp only [Act.put, List.setIfInBounds_toArray, List.set_cons_zero, List.set_cons_succ]
              refine wpAnyH_take (i := 13) (oi := { dst := some 55, op := Go.Op.fieldAddr 32 (Go.Operand.tmp 54) 0, type := 0, pos := "l12_evid.go:69", after := #[{ on := 12, ground := Go.Ground.data }, { on := 5, ground := Go.Ground.guard }], guard := some (5, true) }) (v := ?_) rfl (by kernel_rfl) (by kernel_rfl) (by kernel_rfl) (fun _ _ _ h => h) (Or.inl ⟨by rfl, ?_⟩) hHeld ?_
              rotate_left
              · intro w hSw
                try dsimp only at hSw
                go_simp
                try (with_reducible rfl)
              simp only [Act.put, List.setIfInBounds_toArray, List.set_cons_zero, List.set_cons_succ]
              refine wpAnyH_take (i := 14) (oi := { dst := some 56, op := Go.Op.fieldAddr 30 (Go.Operand.tmp 55) 3, type := 0, pos := "l12_evid.go:69", after := #[{ on := 13, ground := Go.Ground.data }, { on := 5, ground := Go.Ground.guard }], guard := some (5, true) }) (v := ?_) rfl (by kernel_rfl) (by kernel_rfl) (by kernel_rfl) (fun _ _ _ h => h) (Or.inl ⟨by rfl, ?_⟩) hHeld ?_
              rotate_left
              · intro w hSw
                try dsimp only at hSw
                go_simp
                try (with_reducible rfl)
              simp only [Act.put, List.setIfInBounds_toArray, List.set_cons_zero, List.set_cons_succ]
              refine wpAnyH_take (i := 15) (oi := { dst := some 57, op := Go.Op.load 9 (Go.Operand.tmp 56), type := 9, pos := "l12_evid.go:69", after := #[{ on := 14, ground := Go.Ground.data }, { on := 5, ground := Go.Ground.guard }], guard := some (5, true) }) (v := ?_) rfl (by kernel_rfl) (by kernel_rfl) (by kernel_rfl) (fun _ _ _ h => h) (Or.inl ⟨by rfl, ?_⟩) hHeld ?_
              rotate_left
              · intro w hSw
                try dsimp only at hSw
                go_simp
                try (with_reducible rfl)
              simp only [Act.put, List.setIfInBounds_toArray, List.set_cons_zero, List.set_cons_succ]
              refine wpAnyH_take (i := 16) (oi := { dst := some 58, op := Go.Op.binOp Go.BinOp.neq 9 (Go.Operand.tmp 50) (Go.Operand.tmp 57) 9, type := 4, pos := "l12_evid.go:69", after := #[{ on := 8, ground := Go.Ground.data }, { on := 15, ground := Go.Ground.data }, { on := 5, ground := Go.Ground.guard }], guard := some (5, true) }) (v := ?_) rfl (by kernel_rfl) (by kernel_rfl) (by kernel_rfl) (fun _ _ _ h => h) (Or.inl ⟨by rfl, ?_⟩) hHeld ?_
              rotate_left
              · intro w hSw
                try dsimp only at hSw
                go_simp
                try (with_reducible rfl)
              simp only [Act.put, List.setIfInBounds_toArray, List.set_cons_zero, List.set_cons_succ]
              refine wpAnyH_take (i := 17) (oi := { dst := some 59, op := Go.Op.pick (Go.Operand.tmp 47) (Go.Operand.tmp 58) (Go.Operand.const (Go.Value.bool false)), type := 4, pos := "l12_evid.go:69", after := #[{ on := 5, ground := Go.Ground.data }, { on := 16, ground := Go.Ground.data }], guard := none }) (v := ?_) rfl (by kernel_rfl) (by kernel_rfl) (by kernel_rfl) (fun _ _ _ h => h) (Or.inl ⟨by rfl, ?_⟩) hHeld ?_
              rotate_left
              · intro w hSw
                try dsimp only at hSw
                go_simp
                try (with_reducible rfl)
              simp only [Act.put, List.setIfInBounds_toArray, List.set_cons_zero, List.set_cons_succ]
              refine wpAnyH_take (i := 18) (oi := { dst := some 41, op := Go.Op.assign (Go.Operand.tmp 59), type := 4, pos := "l12_evid.go:69", after := #[{ on := 17, ground := Go.Ground.data }, { on := 5, ground := Go.Ground.chain }], guard := none }) (v := ?_) rfl (by kernel_rfl) (by kernel_rfl) (by kernel_rfl) (fun _ _ _ h => h) (Or.inl ⟨by rfl, ?_⟩) hHeld ?_
              rotate_left
              · intro w hSw
                try dsimp only at hSw
                go_simp
                try (with_reducible rfl)
              simp only [Act.put, List.setIfInBounds_toArray, List.set_cons_zero, List.set_cons_succ]
              refine wpAnyH_done (by kernel_rfl) ?_ _
              have pf : ∀ x, w5.frozen? ⟨p, x, none⟩ = false := fun x => by
                have h0 : w5.ownsRow (w.heap.size + 1) 34 12 (.slice (some ⟨p, 0, none⟩) F.length qc) F.length (ecs F) := HE5.out
                exact h0.frozenAt x
              go_wp2_with fail
              have HN4 := HE5.out.put6 j hj ⟨⟨h, r, s, i, v⟩, g⟩
              have HM6 := ((((((HM5.out.setCell (a := ⟨p, j * 12 + 6, none⟩) (show w.heap.size ≠ p by omega) (.int .i64 h)).setCell (a := ⟨p, j * 12 + 6 + 1, none⟩) (show w.heap.size ≠ p by omega) (.int .i64 r)).setCell (a := ⟨p, j * 12 + 6 + 2, none⟩) (show w.heap.size ≠ p by omega) (.int .i64 s)).setCell (a := ⟨p, j * 12 + 6 + 3, none⟩) (show w.heap.size ≠ p by omega) (.string i)).setCell (a := ⟨p, j * 12 + 6 + 4, none⟩) (show w.heap.size ≠ p by omega) (.int .i64 v)).setCell (a := ⟨p, j * 12 + 6 + 5, none⟩) (show w.heap.size ≠ p by omega) (.string g))
              have HB6 := ((((((HB5.out.setCell (p := ⟨p, j * 12 + 6, none⟩) (show w.heap.size ≤ p by omega) (.int .i64 h)).setCell (p := ⟨p, j * 12 + 6 + 1, none⟩) (show w.heap.size ≤ p by omega) (.int .i64 r)).setCell (p := ⟨p, j * 12 + 6 + 2, none⟩) (show w.heap.size ≤ p by omega) (.int .i64 s)).setCell (p := ⟨p, j * 12 + 6 + 3, none⟩) (show w.heap.size ≤ p by omega) (.string i)).setCell (p := ⟨p, j * 12 + 6 + 4, none⟩) (show w.heap.size ≤ p by omega) (.int .i64 v)).setCell (p := ⟨p, j * 12 + 6 + 5, none⟩) (show w.heap.size ≤ p by omega) (.string g))
              have HNE : Hid (evs (L.take (k + 1)) = F.set j (F[j].1, some ⟨⟨h, r, s, i, v⟩, g⟩)) := by show _ = _; rw [HST2.out, HFS2.out, HFj.out, decide_eq_false hii]; rfl
              clear hHeld HS5 HS0 HSB
              generalize (((((((w5.setCell _ _).setCell _ _).setCell _ _).setCell _ _).setCell _ _).setCell _ _) : World) = w6 at *
              have HN1 : Hid (OwnE w6 (w.heap.size + 1) (.slice (some ⟨p, 0, none⟩) F.length qc) (evs (L.take (k + 1)))) := by show OwnE _ _ _ _; rw [HNE.out]; exact HN4
              have HN2 : Hid (MP D (evs (L.take (k + 1)))) := by show MP _ _; rw [HST2.out]; exact HMPU.out
              have HM7 : Hid (w6.ownsMap Tryd.prog 71 (plainElem Tryd.prog 3) w.heap.size (k + 1) D) := World.ownsMap.mono HM6 (by omega)
              have HB7 : Hid (Below w.heap.size w w6) := HB6
              clear HN4 HM6 HB6
              refine ⟨?_, ?_⟩
              ·
                have R : ∃ (k0 : Nat) (q0 : Value) (D0 : DataW Unit), k0 ≤ L.length ∧ Value.int .i64 ((k : Int) + 1) = .int .i64 k0 ∧ q0 = (.slice (some ⟨p, 0, none⟩) F.length qc) ∧ Hid (OwnE w6 (w.heap.size + 1) q0 (evs (L.take k0))) ∧ Hid (w6.ownsMap Tryd.prog 71 (plainElem Tryd.prog 3) w.heap.size k0 D0) ∧ Hid (MP D0 (evs (L.take k0))) ∧ Hid (Below w.heap.size w w6) := ⟨k + 1, (.slice (some ⟨p, 0, none⟩) F.length qc), D, by omega, by go_num, rfl, HN1, HM7, HN2, HB7⟩
                first | exact R | ((repeat apply Exists.intro); exact ⟨R, rfl⟩) | ((repeat apply Exists.intro); exact ⟨rfl, R⟩) | ((repeat apply Exists.intro); exact R)
              · simp [intOf]; omega
    · have hltz : ¬ (k : Int) < (L.length : Int) := by omega
      have HFE : Hid (OwnE wr (w.heap.size + 1) q (evs L)) := by
        have h1 := HE.out
        rw [evs_all (by omega)] at h1; exact h1
      have HB1 : Hid (Below w.heap.size w wr) := HB
      clear HE HM HMP HB
      go_wp2_with fail
      refine (kDl _ _ HFE.out).mono ?_
      rintro ee w5 ⟨v5, rfl, hO5, hG5⟩
      have HO5 : Hid (OwnE w5 w.heap.size v5 (full (evs L))) := own_base hO5 (by omega)
      have HB5 : Hid (Below w.heap.size w w5) := HB1.out.grown hG5 HB1.out.size (fun j hj => by have := (HFE.out.lt j hj).1; omega)
      clear hO5 hG5 HFE HB1
      go_wp2
      go_ret
      exact ⟨_, rfl, HO5.out, HB5.out⟩
end Go.Proofs.YtclajbadeclbdaaDoor
