/- What copyOfSVote and impl.FindEvid answer; old memory stays. Conditions: rows of at most 2 to the 20 votes, texts of at most 2 to the 20 bytes, the table of the hash. -/
import Derived.Test.YtclajbadeclbdaaDoorEb
import Derived.Test.YtclajbadeclbdaaDoorLy
namespace Go.Proofs.YtclajbadeclbdaaDoor
open Go.RowKit
open Num
set_option linter.unusedVariables false
set_option maxHeartbeats 1600000 in
set_option maxRecDepth 100000 in
theorem copy_sv (y : Sv) (w : World) (hy : SmY y) :
    Calls Tryd.prog 37 #[yV y] w fun e w' => e = .returned (yV y) ∧ Below w.heap.size w w' := by
  have kI := fun W => impl_clone y.x.i W hy.1
  have kG := fun W => impl_clone y.s W hy.2
  clear hy
  obtain ⟨⟨h, r, s, i, v⟩, g⟩ := y
  unfold yV
  simp only at kI kG ⊢
  have HX : Hid (Blk ((w.alloc (.cells [.int .i64 h, .int .i64 r, .int .i64 s, .string i, .int .i64 v, .string g].toArray 32)).alloc (.cells [.int .i64 0, .int .i64 0, .int .i64 0, .string ⟨#[]⟩, .int .i64 0, .string ⟨#[]⟩].toArray 32)) w.heap.size [.int .i64 h, .int .i64 r, .int .i64 s, .string i, .int .i64 v, .string g] 32) := (blk_new w _ _).alloc _
  have HR : Hid (Blk ((w.alloc (.cells [.int .i64 h, .int .i64 r, .int .i64 s, .string i, .int .i64 v, .string g].toArray 32)).alloc (.cells [.int .i64 0, .int .i64 0, .int .i64 0, .string ⟨#[]⟩, .int .i64 0, .string ⟨#[]⟩].toArray 32)) (w.heap.size + 1) [.int .i64 0, .int .i64 0, .int .i64 0, .string ⟨#[]⟩, .int .i64 0, .string ⟨#[]⟩] 32) := by
    have h1 := blk_new (w.alloc (.cells [.int .i64 h, .int .i64 r, .int .i64 s, .string i, .int .i64 v, .string g].toArray 32)) [.int .i64 0, .int .i64 0, .int .i64 0, .string ⟨#[]⟩, .int .i64 0, .string ⟨#[]⟩] 32
    have e : (w.alloc (.cells [.int .i64 h, .int .i64 r, .int .i64 s, .string i, .int .i64 v, .string g].toArray 32)).heap.size = w.heap.size + 1 := by simp
    rw [e] at h1; exact h1
  have HB : Hid (Below w.heap.size w ((w.alloc (.cells [.int .i64 h, .int .i64 r, .int .i64 s, .string i, .int .i64 v, .string g].toArray 32)).alloc (.cells [.int .i64 0, .int .i64 0, .int .i64 0, .string ⟨#[]⟩, .int .i64 0, .string ⟨#[]⟩].toArray 32))) := below_two _ _ _
  go_enter Tryd.func37, Tryd.ntmps37
  go_wp2_with fail
  generalize (w.alloc (Obj.cells #[.int .i64 h, .int .i64 r, .int .i64 s, .string i, .int .i64 v, .string g] 32)).alloc (Obj.cells #[.int .i64 0, .int .i64 0, .int .i64 0, .string ⟨#[]⟩, .int .i64 0, .string ⟨#[]⟩] 32) = w1 at *
  refine (kI _).mono ?_
  rintro e w2 ⟨rfl, b2⟩
  have HX2 : Hid (Blk w2 w.heap.size [.int .i64 h, .int .i64 r, .int .i64 s, .string i, .int .i64 v, .string g] 32) := HX.out.below b2 HX.out.lt
  have HR2 : Hid (Blk w2 (w.heap.size + 1) [.int .i64 0, .int .i64 0, .int .i64 0, .string ⟨#[]⟩, .int .i64 0, .string ⟨#[]⟩] 32) := HR.out.below b2 HR.out.lt
  have HB2 : Hid (Below w.heap.size w w2) := HB.out.trans (b2.mono HB.out.size)
  clear HX HR HB b2 kI
  have p3 := HX2.out.cell 3 rfl
  have p5 := HX2.out.cell 5 rfl
  have pf := fun j => HX2.out.frozen j
  have KX := HX2.out.set 3 (.string i)
  have KR := HR2.out.other 3 (.string i) (show w.heap.size + 1 ≠ w.heap.size by omega)
  have KB := HB2.out.setCell (p := ⟨w.heap.size, 3, none⟩) (Nat.le_refl _) (.string i)
  go_wp2_with fail
  clear p3 p5 pf
  generalize (w2.setCell _ _ : World) = w3 at *
  have HX3 : Hid (Blk w3 w.heap.size [.int .i64 h, .int .i64 r, .int .i64 s, .string i, .int .i64 v, .string g] 32) := KX
  have HR3 : Hid (Blk w3 (w.heap.size + 1) [.int .i64 0, .int .i64 0, .int .i64 0, .string ⟨#[]⟩, .int .i64 0, .string ⟨#[]⟩] 32) := KR
  have HB3 : Hid (Below w.heap.size w w3) := KB
  clear KX KR KB HX2 HR2 HB2
  refine (kG _).mono ?_
  rintro e w4 ⟨rfl, b4⟩
  have HX4 : Hid (Blk w4 w.heap.size [.int .i64 h, .int .i64 r, .int .i64 s, .string i, .int .i64 v, .string g] 32) := HX3.out.below b4 HX3.out.lt
  have HR4 : Hid (Blk w4 (w.heap.size + 1) [.int .i64 0, .int .i64 0, .int .i64 0, .string ⟨#[]⟩, .int .i64 0, .string ⟨#[]⟩] 32) := HR3.out.below b4 HR3.out.lt
  have HB4 : Hid (Below w.heap.size w w4) := HB3.out.trans (b4.mono HB3.out.size)
  clear HX3 HR3 HB3 b4 kG
  have p5 := HX4.out.cell 5 rfl
  have pf := fun j => HX4.out.frozen j
  have KX := HX4.out.set 5 (.string g)
  have KR := HR4.out.other 5 (.string g) (show w.heap.size + 1 ≠ w.heap.size by omega)
  have KB := HB4.out.setCell (p := ⟨w.heap.size, 5, none⟩) (Nat.le_refl _) (.string g)
  go_upto_region 3 with fail
  clear p5 pf
  generalize (w4.setCell _ _ : World) = w5 at *
  have HX5 : Hid (Blk w5 w.heap.size [.int .i64 h, .int .i64 r, .int .i64 s, .string i, .int .i64 v, .string g] 32) := KX
  have HR5' : Hid (Blk w5 (w.heap.size + 1) [.int .i64 0, .int .i64 0, .int .i64 0, .string ⟨#[]⟩, .int .i64 0, .string ⟨#[]⟩] 32) := KR
  have HB5' : Hid (Below w.heap.size w w5) := KB
  clear KX KR KB HX4 HR4 HB4
  have x0 := HX5.out.cell 0 rfl
  have p0 := HR5'.out.cell 0 rfl
  have x1 := HX5.out.cell 1 rfl
  have p1 := HR5'.out.cell 1 rfl
  have x2 := HX5.out.cell 2 rfl
  have p2 := HR5'.out.cell 2 rfl
  have x3 := HX5.out.cell 3 rfl
  have p3 := HR5'.out.cell 3 rfl
  have x4 := HX5.out.cell 4 rfl
  have p4 := HR5'.out.cell 4 rfl
  have x5 := HX5.out.cell 5 rfl
  have p5 := HR5'.out.cell 5 rfl
  have pf := fun j => HR5'.out.frozen j
  have HR5 := ((((((HR5'.out.set 0 (.int .i64 h)).set 1 (.int .i64 r)).set 2 (.int .i64 s)).set 3 (.string i)).set 4 (.int .i64 v)).set 5 (.string g))
  have HB5 := ((((((HB5'.out.setCell (p := ⟨w.heap.size + 1, 0, none⟩) (by simp) (.int .i64 h)).setCell (p := ⟨w.heap.size + 1, 1, none⟩) (by simp) (.int .i64 r)).setCell (p := ⟨w.heap.size + 1, 2, none⟩) (by simp) (.int .i64 s)).setCell (p := ⟨w.heap.size + 1, 3, none⟩) (by simp) (.string i)).setCell (p := ⟨w.heap.size + 1, 4, none⟩) (by simp) (.int .i64 v)).setCell (p := ⟨w.heap.size + 1, 5, none⟩) (by simp) (.string g))
  go_wp2_with fail
  clear x0 p0 x1 p1 x2 p2 x3 p3 x4 p4 x5 p5 pf
  have y0 := HR5.cell 0 rfl
  have y1 := HR5.cell 1 rfl
  have y2 := HR5.cell 2 rfl
  have y3 := HR5.cell 3 rfl
  have y4 := HR5.cell 4 rfl
  have y5 := HR5.cell 5 rfl
  refine bodyPost_ret (v := .agg #[.int .i64 h, .int .i64 r, .int .i64 s, .string i, .int .i64 v, .string g]) ?_ rfl ⟨rfl, HB5⟩
  generalize (((((((w5.setCell _ _).setCell _ _).setCell _ _).setCell _ _).setCell _ _).setCell _ _) : World) = W at *
  clear HB5 HR5
  simp [results, Tryd.results37, go_sem, y0, y1, y2, y3, y4, y5]
/-- The first of z from a place on. -/
theorem fz_skip {G : List Ent} {k : Nat} (h : k < G.length) (z : Int) : fz z (G.drop k) = (fz z [G[k]]).or (fz z (G.drop (k + 1))) := by
  rw [List.drop_eq_getElem_cons h]
  exact fz_append z [G[k]] _
theorem fz_one {e : Ent} {z : Int} (h : e.1.x.v ≠ z) : fz z [e] = none := by
  obtain ⟨a, b⟩ := e
  cases b with
  | none => rfl
  | some u => simp [fz, h]
theorem fz_hit {a b : Sv} {z : Int} (h : a.x.v = z) : fz z [(a, some b)] = some (a, b) := by simp [fz, h]
theorem fe_fz (L : List Sv) (z : Int) : fe L z = fz z (full (evs L)) := by rw [fz_full, evs_fe]
/-- What is kept is of the list. -/
theorem evs_small {L : List Sv} (h : ∀ y ∈ L, SmY y) : ∀ e ∈ evs L, SmY e.1 ∧ ∀ b, e.2 = some b → SmY b := by
  have : ∀ (r : List Sv) (F : List Ent), (∀ y ∈ r, SmY y) → (∀ e ∈ F, SmY e.1 ∧ ∀ b, e.2 = some b → SmY b) → ∀ e ∈ r.foldl stepE F, SmY e.1 ∧ ∀ b, e.2 = some b → SmY b := by
    intro r
    induction r with
    | nil => intro F _ hF; exact hF
    | cons s r ih =>
      intro F hr hF
      refine ih (stepE F s) (fun y hy => hr y (by simp [hy])) ?_
      have hs := hr s (by simp)
      cases hg : sgB s with
      | false => rw [stepE_no hg]; exact hF
      | true =>
        cases hi : inF F s.x with
        | true =>
          rw [stepE_old hg hi]
          intro e he
          obtain ⟨e0, h0, rfl⟩ := List.mem_map.1 he
          refine ⟨by rw [upd_fst]; exact (hF e0 h0).1, fun b hb => ?_⟩
          unfold upd at hb
          cases hc : e0.2.isNone && evB e0.1 s with
          | false => rw [hc] at hb; exact (hF e0 h0).2 b hb
          | true => rw [hc] at hb; injection hb with hb; subst hb; exact hs
        | false =>
          rw [stepE_new hg hi]
          intro e he
          rcases List.mem_append.1 he with he | he
          · exact hF e he
          · rw [List.mem_singleton] at he; subst he; exact ⟨hs, fun b hb => by cases hb⟩
  exact this L [] h (fun e he => by cases he)
set_option maxHeartbeats 3200000 in
set_option maxRecDepth 100000 in
theorem impl_find (a : Option Addr) (L : List Sv) (cap : Nat) (z : Int) (w : World) (hl : YO w a L) (hlen : L.length ≤ 1048576) (hsm : ∀ y ∈ L, SmY y) (hT : Tab w) :
    Calls Tryd.prog 13 #[.slice a L.length cap, .int .i64 z] w fun e w' => e = .returned (.tuple #[oV (fe L z), .bool (fe L z).isSome]) ∧ Below w.heap.size w w' := by
  have HC0 : Hid (Blk (w.alloc (.cells [.int .i64 0, .int .i64 0, .int .i64 0, .string ⟨#[]⟩, .int .i64 0, .string ⟨#[]⟩, .int .i64 0, .int .i64 0, .int .i64 0, .string ⟨#[]⟩, .int .i64 0, .string ⟨#[]⟩].toArray 34)) w.heap.size [.int .i64 0, .int .i64 0, .int .i64 0, .string ⟨#[]⟩, .int .i64 0, .string ⟨#[]⟩, .int .i64 0, .int .i64 0, .int .i64 0, .string ⟨#[]⟩, .int .i64 0, .string ⟨#[]⟩] 34) := blk_new w _ _
  have HB0 : Hid (Below w.heap.size w (w.alloc (.cells [.int .i64 0, .int .i64 0, .int .i64 0, .string ⟨#[]⟩, .int .i64 0, .string ⟨#[]⟩, .int .i64 0, .int .i64 0, .int .i64 0, .string ⟨#[]⟩, .int .i64 0, .string ⟨#[]⟩].toArray 34))) := below_one _ _
  have kI := evid_in a L cap (w.alloc (.cells [.int .i64 0, .int .i64 0, .int .i64 0, .string ⟨#[]⟩, .int .i64 0, .string ⟨#[]⟩, .int .i64 0, .int .i64 0, .int .i64 0, .string ⟨#[]⟩, .int .i64 0, .string ⟨#[]⟩].toArray 34)) (hl.below (below_one _ _)) hlen (hT.below (below_one _ _) hT.pos)
  have HFE : Hid (fe L z = fz z (full (evs L))) := fe_fz L z
  have HSM : Hid (∀ e ∈ full (evs L), SmY e.1 ∧ ∀ b, e.2 = some b → SmY b) := fun e he => evs_small hsm e (List.mem_filter.1 he).1
  have HIS : Hid (∀ e ∈ full (evs L), e.2.isSome = true) := fun e he => (List.mem_filter.1 he).2
  have HGL : Hid ((full (evs L)).length ≤ 1048576) := by have := full_len (evs L); have := evs_len L; show _ ≤ _; omega
  clear hl hT hsm
  generalize full (evs L) = G at *
  generalize fe L z = RR at *
  go_enter Tryd.func13, Tryd.ntmps13
  go_wp2_with fail
  refine kI.mono ?_
  rintro ee w1 ⟨v1, rfl, hO, b1⟩
  obtain ⟨p, c1, rfl, hE, -, -⟩ := hO.o
  have HE : Hid (EO w1 p G) := hE
  have HC1 : Hid (Blk w1 w.heap.size [.int .i64 0, .int .i64 0, .int .i64 0, .string ⟨#[]⟩, .int .i64 0, .string ⟨#[]⟩, .int .i64 0, .int .i64 0, .int .i64 0, .string ⟨#[]⟩, .int .i64 0, .string ⟨#[]⟩] 34) := HC0.out.below b1 HC0.out.lt
  have HB1 : Hid (Below w.heap.size w w1) := HB0.out.trans (b1.mono HB0.out.size)
  clear hO hE b1 kI HC0 HB0
  go_wp2
  go_loopw [11] (fun iv wr => ∃ k : Nat, k ≤ G.length ∧ iv = .int .i64 k ∧ Hid (fz z (G.drop k) = RR) ∧ Hid (Blk wr w.heap.size [.int .i64 0, .int .i64 0, .int .i64 0, .string ⟨#[]⟩, .int .i64 0, .string ⟨#[]⟩, .int .i64 0, .int .i64 0, .int .i64 0, .string ⟨#[]⟩, .int .i64 0, .string ⟨#[]⟩] 34) ∧ Hid (Below w1.heap.size w1 wr)) (fun iv _ => G.length - (intOf iv).toNat)
  case atStart => exact ⟨0, Nat.zero_le _, rfl, HFE.out.symm, HC1, Below.refl _ _⟩
  case round =>
    obtain ⟨k, hk, rfl, HF, HC, HB⟩ := hrel
    clear HC1
    by_cases hlt : k < G.length
    · have hltz : (k : Int) < (G.length : Int) := by omega
      rcases HE.out with h0 | ⟨pp, rfl, hq, hc⟩
      · omega
      have hck := fun c hc' => (HB.out.cell (p := ⟨pp, k * 12 + c, none⟩) hq).trans (hc k hlt c hc')
      have HSk := fz_skip hlt z
      have hsm := HSM.out _ (List.getElem_mem hlt)
      have his := HIS.out _ (List.getElem_mem hlt)
      obtain ⟨e, he⟩ : ∃ e, G[k] = e := ⟨_, rfl⟩
      rw [he] at hck HSk hsm his
      clear hc he
      obtain ⟨x, ob⟩ := e
      cases ob with
      | none => cases his
      | some y =>
      have hd := twelve (e := (x, some y)) (a := x) (b := y) rfl hck
      have HK : Hid (fz z (G.drop k) = (fz z [(x, some y)]).or (fz z (G.drop (k + 1)))) := HSk
      have kC := fun W => impl_culpr x y W
      have kX := fun W => copy_sv x W hsm.1
      have kY := fun W => copy_sv y W (hsm.2 y rfl)
      have HNX : Hid (¬ x.x.v = z → fz z (G.drop (k + 1)) = RR) := fun hne => by
        rw [← HF.out, HK.out, fz_one hne]; rfl
      have HHT : Hid (x.x.v = z → RR = some (x, y)) := fun hev => by
        rw [← HF.out, HK.out, fz_hit hev]; rfl
      have hBw : w.heap.size ≤ w1.heap.size := HB1.out.size
      clear hck HSk hsm his HK HF
      obtain ⟨⟨h, r, s, i, v⟩, g⟩ := x
      obtain ⟨⟨h', r', s', i', v'⟩, g'⟩ := y
      unfold eV at kC
      unfold yV at kX kY
      simp only at kC kX kY hd HNX HHT
      obtain ⟨c0, c1, c2, c3, c4, c5, c6, c7, c8, c9, c10, c11⟩ := hd
      obtain ⟨wa, hwa⟩ : ∃ W, wr.alloc (.cells [.int .i64 h, .int .i64 r, .int .i64 s, .string i, .int .i64 v, .string g, .int .i64 h', .int .i64 r', .int .i64 s', .string i', .int .i64 v', .string g'].toArray 34) = W := ⟨_, rfl⟩
      have HY : Hid (Blk wa wr.heap.size [.int .i64 h, .int .i64 r, .int .i64 s, .string i, .int .i64 v, .string g, .int .i64 h', .int .i64 r', .int .i64 s', .string i', .int .i64 v', .string g'] 34) := by rw [← hwa]; exact blk_new wr _ _
      have HCa : Hid (Blk wa w.heap.size [.int .i64 0, .int .i64 0, .int .i64 0, .string ⟨#[]⟩, .int .i64 0, .string ⟨#[]⟩, .int .i64 0, .int .i64 0, .int .i64 0, .string ⟨#[]⟩, .int .i64 0, .string ⟨#[]⟩] 34) := by rw [← hwa]; exact HC.out.alloc _
      have HBa : Hid (Below w1.heap.size w1 wa) := by rw [← hwa]; exact HB.out.alloc HB.out.size _
      have hrw : w.heap.size < wr.heap.size := HC.out.lt
      have z0 := HY.out.cell 0 rfl
      have z1 := HY.out.cell 1 rfl
      have z2 := HY.out.cell 2 rfl
      have z3 := HY.out.cell 3 rfl
      have z4 := HY.out.cell 4 rfl
      have z5 := HY.out.cell 5 rfl
      have z6 := HY.out.cell 6 rfl
      have z7 := HY.out.cell 7 rfl
      have z8 := HY.out.cell 8 rfl
      have z9 := HY.out.cell 9 rfl
      have z10 := HY.out.cell 10 rfl
      have z11 := HY.out.cell 11 rfl
      go_wp2_with fail
      clear c0 c1 c2 c3 c4 c5 c6 c7 c8 c9 c10 c11 z0 z1 z2 z3 z4 z5 z6 z7 z8 z9 z10 z11 hwa HC HB
      refine (kC _).mono ?_
      rintro ee w3 ⟨rfl, b3⟩
      have HY3 : Hid (Blk w3 wr.heap.size [.int .i64 h, .int .i64 r, .int .i64 s, .string i, .int .i64 v, .string g, .int .i64 h', .int .i64 r', .int .i64 s', .string i', .int .i64 v', .string g'] 34) := HY.out.below b3 HY.out.lt
      have HC3 : Hid (Blk w3 w.heap.size [.int .i64 0, .int .i64 0, .int .i64 0, .string ⟨#[]⟩, .int .i64 0, .string ⟨#[]⟩, .int .i64 0, .int .i64 0, .int .i64 0, .string ⟨#[]⟩, .int .i64 0, .string ⟨#[]⟩] 34) := HCa.out.below b3 HCa.out.lt
      have HB3 : Hid (Below w1.heap.size w1 w3) := HBa.out.trans (b3.mono HBa.out.size)
      clear HY HCa HBa b3 kC
      by_cases hvz : v = z
      · have HRR : Hid (RR = some (⟨⟨h, r, s, i, v⟩, g⟩, ⟨⟨h', r', s', i', v'⟩, g'⟩)) := HHT.out hvz
        have HBw3 : Hid (Below w.heap.size w w3) := HB1.out.trans (HB3.out.mono hBw)
        clear HNX HHT HB3
        subst hvz
        have hwr : wr.heap.size < w3.drew.heap.size := HY3.out.lt
        have HYd : Hid (Blk w3.drew wr.heap.size [.int .i64 h, .int .i64 r, .int .i64 s, .string i, .int .i64 v, .string g, .int .i64 h', .int .i64 r', .int .i64 s', .string i', .int .i64 v', .string g'] 34) := HY3.out
        have HCd : Hid (Blk w3.drew w.heap.size [.int .i64 0, .int .i64 0, .int .i64 0, .string ⟨#[]⟩, .int .i64 0, .string ⟨#[]⟩, .int .i64 0, .int .i64 0, .int .i64 0, .string ⟨#[]⟩, .int .i64 0, .string ⟨#[]⟩] 34) := HC3.out
        have HBd : Hid (Below w.heap.size w w3.drew) := HBw3.out.drew
        have HYS : Hid (∀ W, Blk W wr.heap.size [.int .i64 h, .int .i64 r, .int .i64 s, .string i, .int .i64 v, .string g, .int .i64 h', .int .i64 r', .int .i64 s', .string i', .int .i64 v', .string g'] 34 → (fun W : World => (W.cell? ⟨wr.heap.size, 0, none⟩ = some (Value.int .i64 h) ∧ W.cell? ⟨wr.heap.size, 1, none⟩ = some (Value.int .i64 r) ∧ W.cell? ⟨wr.heap.size, 2, none⟩ = some (Value.int .i64 s) ∧ W.cell? ⟨wr.heap.size, 3, none⟩ = some (Value.string i) ∧ W.cell? ⟨wr.heap.size, 4, none⟩ = some (Value.int .i64 v) ∧ W.cell? ⟨wr.heap.size, 5, none⟩ = some (Value.string g) ∧ W.cell? ⟨wr.heap.size, 6, none⟩ = some (Value.int .i64 h') ∧ W.cell? ⟨wr.heap.size, 7, none⟩ = some (Value.int .i64 r') ∧ W.cell? ⟨wr.heap.size, 8, none⟩ = some (Value.int .i64 s') ∧ W.cell? ⟨wr.heap.size, 9, none⟩ = some (Value.string i') ∧ W.cell? ⟨wr.heap.size, 10, none⟩ = some (Value.int .i64 v') ∧ W.cell? ⟨wr.heap.size, 11, none⟩ = some (Value.string g'))) W) := fun W H => ⟨H.cell 0 rfl, H.cell 1 rfl, H.cell 2 rfl, H.cell 3 rfl, H.cell 4 rfl, H.cell 5 rfl, H.cell 6 rfl, H.cell 7 rfl, H.cell 8 rfl, H.cell 9 rfl, H.cell 10 rfl, H.cell 11 rfl⟩
        clear HY3 HC3 HBw3
        go_wp2_with fail
        refine wp_region_held_drew (S := (fun W : World => (W.cell? ⟨wr.heap.size, 0, none⟩ = some (Value.int .i64 h) ∧ W.cell? ⟨wr.heap.size, 1, none⟩ = some (Value.int .i64 r) ∧ W.cell? ⟨wr.heap.size, 2, none⟩ = some (Value.int .i64 s) ∧ W.cell? ⟨wr.heap.size, 3, none⟩ = some (Value.string i) ∧ W.cell? ⟨wr.heap.size, 4, none⟩ = some (Value.int .i64 v) ∧ W.cell? ⟨wr.heap.size, 5, none⟩ = some (Value.string g) ∧ W.cell? ⟨wr.heap.size, 6, none⟩ = some (Value.int .i64 h') ∧ W.cell? ⟨wr.heap.size, 7, none⟩ = some (Value.int .i64 r') ∧ W.cell? ⟨wr.heap.size, 8, none⟩ = some (Value.int .i64 s') ∧ W.cell? ⟨wr.heap.size, 9, none⟩ = some (Value.string i') ∧ W.cell? ⟨wr.heap.size, 10, none⟩ = some (Value.int .i64 v') ∧ W.cell? ⟨wr.heap.size, 11, none⟩ = some (Value.string g')))) (by kernel_rfl) ?_ (fun hHeld => ?_)
        · exact HYS.out _ HYd.out
        generalize w3.drew = wd at *
        refine wpAnyH_take (i := 0) (oi := { dst := some 19, op := Go.Op.fieldAddr 34 (Go.Operand.tmp 7) 0, type := 0, pos := "l12_evid.go:101", after := #[], guard := none }) (v := ?_) rfl (by kernel_rfl) (by kernel_rfl) (by kernel_rfl) (fun _ _ _ h => h) (Or.inl ⟨by rfl, ?_⟩) hHeld ?_
        rotate_left
        · intro w hSw
          try dsimp only at hSw
          go_simp
          try (with_reducible rfl)
        simp only [Act.put, List.setIfInBounds_toArray, List.set_cons_zero, List.set_cons_succ]
        refine wpAnyH_take (i := 1) (oi := { dst := some 20, op := Go.Op.load 32 (Go.Operand.tmp 19), type := 32, pos := "l12_evid.go:101", after := #[{ on := 0, ground := Go.Ground.data }], guard := none }) (v := ?_) rfl (by kernel_rfl) (by kernel_rfl) (by kernel_rfl) (fun _ _ _ h => h) (Or.inl ⟨by rfl, ?_⟩) hHeld ?_
        rotate_left
        · intro w hSw
          try dsimp only at hSw
          go_simp
          try (with_reducible rfl)
        simp only [Act.put, List.setIfInBounds_toArray, List.set_cons_zero, List.set_cons_succ]
        refine wpAnyH_take (i := 3) (oi := { dst := some 22, op := Go.Op.fieldAddr 34 (Go.Operand.tmp 7) 1, type := 0, pos := "l12_evid.go:101", after := #[], guard := none }) (v := ?_) rfl (by kernel_rfl) (by kernel_rfl) (by kernel_rfl) (fun _ _ _ h => h) (Or.inl ⟨by rfl, ?_⟩) hHeld ?_
        rotate_left
        · intro w hSw
          try dsimp only at hSw
          go_simp
          try (with_reducible rfl)
        simp only [Act.put, List.setIfInBounds_toArray, List.set_cons_zero, List.set_cons_succ]
        refine wpAnyH_take (i := 4) (oi := { dst := some 23, op := Go.Op.load 32 (Go.Operand.tmp 22), type := 32, pos := "l12_evid.go:101", after := #[{ on := 3, ground := Go.Ground.data }], guard := none }) (v := ?_) rfl (by kernel_rfl) (by kernel_rfl) (by kernel_rfl) (fun _ _ _ h => h) (Or.inl ⟨by rfl, ?_⟩) hHeld ?_
        rotate_left
        · intro w hSw
          try dsimp only at hSw
          go_simp
          try (with_reducible rfl)
        simp only [Act.put, List.setIfInBounds_toArray, List.set_cons_zero, List.set_cons_succ]
        refine wpAnyH_ready (rs := [2]) (by kernel_rfl) (by decide) ?_
        refine AllReadyH.cons (o := { dst := some 21, op := Go.Op.call { callee := Go.Callee.value (Go.Operand.func 37), args := #[Go.Operand.tmp 20], argTypes := #[32] }, type := 32, pos := "l12_evid.go:101", after := #[{ on := 1, ground := Go.Ground.data }], guard := none }) rfl (fun K hK => ?_) AllReadyH.nil
        go_simp
        refine (kX _).mono ?_
        rintro ee q1 ⟨rfl, d1⟩
        have HY6 : Hid (Blk q1 wr.heap.size [.int .i64 h, .int .i64 r, .int .i64 s, .string i, .int .i64 v, .string g, .int .i64 h', .int .i64 r', .int .i64 s', .string i', .int .i64 v', .string g'] 34) := HYd.out.below d1 HYd.out.lt
        have HC6 : Hid (Blk q1 w.heap.size [.int .i64 0, .int .i64 0, .int .i64 0, .string ⟨#[]⟩, .int .i64 0, .string ⟨#[]⟩, .int .i64 0, .int .i64 0, .int .i64 0, .string ⟨#[]⟩, .int .i64 0, .string ⟨#[]⟩] 34) := HCd.out.below d1 HCd.out.lt
        have HB6 : Hid (Below w.heap.size w q1) := HBd.out.trans (d1.mono HBd.out.size)
        refine hK.out _ _ (HYS.out _ HY6.out) (fun hHeld => ?_)
        clear hK K
        try simp only [Act.put, List.setIfInBounds_toArray, List.set_cons_zero, List.set_cons_succ]
        refine wpAnyH_ready (rs := [5]) (by kernel_rfl) (by decide) ?_
        refine AllReadyH.cons (o := { dst := some 24, op := Go.Op.call { callee := Go.Callee.value (Go.Operand.func 37), args := #[Go.Operand.tmp 23], argTypes := #[32] }, type := 32, pos := "l12_evid.go:101", after := #[{ on := 4, ground := Go.Ground.data }, { on := 2, ground := Go.Ground.chain }], guard := none }) rfl (fun K hK => ?_) AllReadyH.nil
        go_simp
        refine (kY _).mono ?_
        rintro ee q2 ⟨rfl, d2⟩
        have HY7 : Hid (Blk q2 wr.heap.size [.int .i64 h, .int .i64 r, .int .i64 s, .string i, .int .i64 v, .string g, .int .i64 h', .int .i64 r', .int .i64 s', .string i', .int .i64 v', .string g'] 34) := HY6.out.below d2 HY6.out.lt
        have HC7 : Hid (Blk q2 w.heap.size [.int .i64 0, .int .i64 0, .int .i64 0, .string ⟨#[]⟩, .int .i64 0, .string ⟨#[]⟩, .int .i64 0, .int .i64 0, .int .i64 0, .string ⟨#[]⟩, .int .i64 0, .string ⟨#[]⟩] 34) := HC6.out.below d2 HC6.out.lt
        have HB7 : Hid (Below w.heap.size w q2) := HB6.out.trans (d2.mono HB6.out.size)
        refine hK.out _ _ (HYS.out _ HY7.out) (fun hHeld => ?_)
        clear hK K
        try simp only [Act.put, List.setIfInBounds_toArray, List.set_cons_zero, List.set_cons_succ]
        refine wpAnyH_take (i := 6) (oi := { dst := some 25, op := Go.Op.build 34 #[(0, Go.Operand.tmp 21), (1, Go.Operand.tmp 24)], type := 34, pos := "l12_evid.go:101", after := #[{ on := 2, ground := Go.Ground.data }, { on := 5, ground := Go.Ground.data }], guard := none }) (v := ?_) rfl (by kernel_rfl) (by kernel_rfl) (by kernel_rfl) (fun _ _ _ h => h) (Or.inl ⟨by rfl, ?_⟩) hHeld ?_
        rotate_left
        · intro w hSw
          try dsimp only at hSw
          go_simp
          try (with_reducible rfl)
        simp only [Act.put, List.setIfInBounds_toArray, List.set_cons_zero, List.set_cons_succ]
        refine wpAnyH_ready (rs := [7]) (by kernel_rfl) (by decide) ?_
        refine AllReadyH.cons (o := { dst := none, op := Go.Op.store 34 (Go.Operand.tmp 4) (Go.Operand.tmp 25), type := 0, pos := "l12_evid.go:101", after := #[{ on := 6, ground := Go.Ground.data }, { on := 5, ground := Go.Ground.chain }, { on := 0, ground := Go.Ground.phase }, { on := 1, ground := Go.Ground.phase }, { on := 2, ground := Go.Ground.phase }, { on := 3, ground := Go.Ground.phase }, { on := 4, ground := Go.Ground.phase }, { on := 5, ground := Go.Ground.phase }, { on := 6, ground := Go.Ground.phase }], guard := none }) rfl (fun K hK => ?_) AllReadyH.nil
        have p0 := HC7.out.cell 0 rfl
        have p1 := HC7.out.cell 1 rfl
        have p2 := HC7.out.cell 2 rfl
        have p3 := HC7.out.cell 3 rfl
        have p4 := HC7.out.cell 4 rfl
        have p5 := HC7.out.cell 5 rfl
        have p6 := HC7.out.cell 6 rfl
        have p7 := HC7.out.cell 7 rfl
        have p8 := HC7.out.cell 8 rfl
        have p9 := HC7.out.cell 9 rfl
        have p10 := HC7.out.cell 10 rfl
        have p11 := HC7.out.cell 11 rfl
        have pf := fun j => HC7.out.frozen j
        have HR5 := ((((((((((((HC7.out.set 0 (.int .i64 h)).set 1 (.int .i64 r)).set 2 (.int .i64 s)).set 3 (.string i)).set 4 (.int .i64 v)).set 5 (.string g)).set 6 (.int .i64 h')).set 7 (.int .i64 r')).set 8 (.int .i64 s')).set 9 (.string i')).set 10 (.int .i64 v')).set 11 (.string g'))
        have HY9 := ((((((((((((HY7.out.other 0 (.int .i64 h) (show wr.heap.size ≠ w.heap.size by omega)).other 1 (.int .i64 r) (show wr.heap.size ≠ w.heap.size by omega)).other 2 (.int .i64 s) (show wr.heap.size ≠ w.heap.size by omega)).other 3 (.string i) (show wr.heap.size ≠ w.heap.size by omega)).other 4 (.int .i64 v) (show wr.heap.size ≠ w.heap.size by omega)).other 5 (.string g) (show wr.heap.size ≠ w.heap.size by omega)).other 6 (.int .i64 h') (show wr.heap.size ≠ w.heap.size by omega)).other 7 (.int .i64 r') (show wr.heap.size ≠ w.heap.size by omega)).other 8 (.int .i64 s') (show wr.heap.size ≠ w.heap.size by omega)).other 9 (.string i') (show wr.heap.size ≠ w.heap.size by omega)).other 10 (.int .i64 v') (show wr.heap.size ≠ w.heap.size by omega)).other 11 (.string g') (show wr.heap.size ≠ w.heap.size by omega))
        have HB5 := ((((((((((((HB7.out.setCell (p := ⟨w.heap.size, 0, none⟩) (Nat.le_refl _) (.int .i64 h)).setCell (p := ⟨w.heap.size, 1, none⟩) (Nat.le_refl _) (.int .i64 r)).setCell (p := ⟨w.heap.size, 2, none⟩) (Nat.le_refl _) (.int .i64 s)).setCell (p := ⟨w.heap.size, 3, none⟩) (Nat.le_refl _) (.string i)).setCell (p := ⟨w.heap.size, 4, none⟩) (Nat.le_refl _) (.int .i64 v)).setCell (p := ⟨w.heap.size, 5, none⟩) (Nat.le_refl _) (.string g)).setCell (p := ⟨w.heap.size, 6, none⟩) (Nat.le_refl _) (.int .i64 h')).setCell (p := ⟨w.heap.size, 7, none⟩) (Nat.le_refl _) (.int .i64 r')).setCell (p := ⟨w.heap.size, 8, none⟩) (Nat.le_refl _) (.int .i64 s')).setCell (p := ⟨w.heap.size, 9, none⟩) (Nat.le_refl _) (.string i')).setCell (p := ⟨w.heap.size, 10, none⟩) (Nat.le_refl _) (.int .i64 v')).setCell (p := ⟨w.heap.size, 11, none⟩) (Nat.le_refl _) (.string g'))
        go_simp
        refine hK.out _ _ (HYS.out _ HY9) (fun hHeld => ?_)
        clear hK K
        try simp only [Act.put, List.setIfInBounds_toArray, List.set_cons_zero, List.set_cons_succ]
        refine wpAnyH_take (i := 8) (oi := { dst := some 5, op := Go.Op.assign (Go.Operand.const (Go.Value.bool true)), type := 4, pos := "l12_evid.go:101", after := #[{ on := 7, ground := Go.Ground.chain }, { on := 0, ground := Go.Ground.phase }, { on := 1, ground := Go.Ground.phase }, { on := 2, ground := Go.Ground.phase }, { on := 3, ground := Go.Ground.phase }, { on := 4, ground := Go.Ground.phase }, { on := 5, ground := Go.Ground.phase }, { on := 6, ground := Go.Ground.phase }, { on := 7, ground := Go.Ground.phase }], guard := none }) (v := ?_) rfl (by kernel_rfl) (by kernel_rfl) (by kernel_rfl) (fun _ _ _ h => h) (Or.inl ⟨by rfl, ?_⟩) hHeld ?_
        rotate_left
        · intro w hSw
          try dsimp only at hSw
          go_simp
          try (with_reducible rfl)
        simp only [Act.put, List.setIfInBounds_toArray, List.set_cons_zero, List.set_cons_succ]
        refine wpAnyH_done (by kernel_rfl) ?_ _
        skip
        go_wp2_with fail
        clear p0 p1 p2 p3 p4 p5 p6 p7 p8 p9 p10 p11
        have y0 := HR5.cell 0 rfl
        have y1 := HR5.cell 1 rfl
        have y2 := HR5.cell 2 rfl
        have y3 := HR5.cell 3 rfl
        have y4 := HR5.cell 4 rfl
        have y5 := HR5.cell 5 rfl
        have y6 := HR5.cell 6 rfl
        have y7 := HR5.cell 7 rfl
        have y8 := HR5.cell 8 rfl
        have y9 := HR5.cell 9 rfl
        have y10 := HR5.cell 10 rfl
        have y11 := HR5.cell 11 rfl
        refine bodyPost_ret (v := .tuple #[.agg #[.int .i64 h, .int .i64 r, .int .i64 s, .string i, .int .i64 v, .string g, .int .i64 h', .int .i64 r', .int .i64 s', .string i', .int .i64 v', .string g'], .bool true]) ?_ rfl ⟨by rw [HRR.out]; rfl, HB5⟩
        generalize (((((((((((((q2.setCell _ _).setCell _ _).setCell _ _).setCell _ _).setCell _ _).setCell _ _).setCell _ _).setCell _ _).setCell _ _).setCell _ _).setCell _ _).setCell _ _) : World) = W at *
        clear HB5 HR5
        simp [results, Tryd.results13, go_sem, y0, y1, y2, y3, y4, y5, y6, y7, y8, y9, y10, y11]
      · have HN : Hid (fz z (G.drop (k + 1)) = RR) := HNX.out hvz
        clear HNX HHT
        have hGl := HGL.out
        go_wp2
        go_roundw
        case rel => exact ⟨k + 1, by omega, by go_num, HN, HC3, HB3⟩
        case measure => simp [intOf]; omega
    · have hltz : ¬ (k : Int) < (G.length : Int) := by omega
      have HN : Hid (RR = none) := by show _ = _; rw [← HF.out, List.drop_eq_nil_of_le (by omega)]; rfl
      have HBw : Hid (Below w.heap.size w wr) := HB1.out.trans (HB.out.mono HB1.out.size)
      have p0 := HC.out.cell 0 rfl
      have p1 := HC.out.cell 1 rfl
      have p2 := HC.out.cell 2 rfl
      have p3 := HC.out.cell 3 rfl
      have p4 := HC.out.cell 4 rfl
      have p5 := HC.out.cell 5 rfl
      have p6 := HC.out.cell 6 rfl
      have p7 := HC.out.cell 7 rfl
      have p8 := HC.out.cell 8 rfl
      have p9 := HC.out.cell 9 rfl
      have p10 := HC.out.cell 10 rfl
      have p11 := HC.out.cell 11 rfl
      have pf := fun j => HC.out.frozen j
      have HR5 := ((((((((((((HC.out.set 0 (.int .i64 0)).set 1 (.int .i64 0)).set 2 (.int .i64 0)).set 3 (.string ⟨#[]⟩)).set 4 (.int .i64 0)).set 5 (.string ⟨#[]⟩)).set 6 (.int .i64 0)).set 7 (.int .i64 0)).set 8 (.int .i64 0)).set 9 (.string ⟨#[]⟩)).set 10 (.int .i64 0)).set 11 (.string ⟨#[]⟩))
      have HB5 := ((((((((((((HBw.out.setCell (p := ⟨w.heap.size, 0, none⟩) (Nat.le_refl _) (.int .i64 0)).setCell (p := ⟨w.heap.size, 1, none⟩) (Nat.le_refl _) (.int .i64 0)).setCell (p := ⟨w.heap.size, 2, none⟩) (Nat.le_refl _) (.int .i64 0)).setCell (p := ⟨w.heap.size, 3, none⟩) (Nat.le_refl _) (.string ⟨#[]⟩)).setCell (p := ⟨w.heap.size, 4, none⟩) (Nat.le_refl _) (.int .i64 0)).setCell (p := ⟨w.heap.size, 5, none⟩) (Nat.le_refl _) (.string ⟨#[]⟩)).setCell (p := ⟨w.heap.size, 6, none⟩) (Nat.le_refl _) (.int .i64 0)).setCell (p := ⟨w.heap.size, 7, none⟩) (Nat.le_refl _) (.int .i64 0)).setCell (p := ⟨w.heap.size, 8, none⟩) (Nat.le_refl _) (.int .i64 0)).setCell (p := ⟨w.heap.size, 9, none⟩) (Nat.le_refl _) (.string ⟨#[]⟩)).setCell (p := ⟨w.heap.size, 10, none⟩) (Nat.le_refl _) (.int .i64 0)).setCell (p := ⟨w.heap.size, 11, none⟩) (Nat.le_refl _) (.string ⟨#[]⟩))
      go_wp2
      clear p0 p1 p2 p3 p4 p5 p6 p7 p8 p9 p10 p11
      have y0 := HR5.cell 0 rfl
      have y1 := HR5.cell 1 rfl
      have y2 := HR5.cell 2 rfl
      have y3 := HR5.cell 3 rfl
      have y4 := HR5.cell 4 rfl
      have y5 := HR5.cell 5 rfl
      have y6 := HR5.cell 6 rfl
      have y7 := HR5.cell 7 rfl
      have y8 := HR5.cell 8 rfl
      have y9 := HR5.cell 9 rfl
      have y10 := HR5.cell 10 rfl
      have y11 := HR5.cell 11 rfl
      refine bodyPost_ret (v := .tuple #[.agg #[.int .i64 0, .int .i64 0, .int .i64 0, .string ⟨#[]⟩, .int .i64 0, .string ⟨#[]⟩, .int .i64 0, .int .i64 0, .int .i64 0, .string ⟨#[]⟩, .int .i64 0, .string ⟨#[]⟩], .bool false]) ?_ rfl ⟨by rw [HN.out]; rfl, HB5⟩
      generalize (((((((((((((wr.setCell _ _).setCell _ _).setCell _ _).setCell _ _).setCell _ _).setCell _ _).setCell _ _).setCell _ _).setCell _ _).setCell _ _).setCell _ _).setCell _ _) : World) = W at *
      clear HB5 HR5
      simp [results, Tryd.results13, go_sem, y0, y1, y2, y3, y4, y5, y6, y7, y8, y9, y10, y11]
end Go.Proofs.YtclajbadeclbdaaDoor
