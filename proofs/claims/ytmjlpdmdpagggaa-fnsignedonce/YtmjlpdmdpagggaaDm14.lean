/- A signer that is drawn: a row of its own of at most twenty votes. Conditions: none of ours. -/
import Derived.Test.YtmjlpdmdpagggaaDs14
namespace Go.Proofs.Ytmjlpdmdpagggaa
open Go.RowKit
open Num
set_option linter.unusedVariables false
theorem synS_len2 (x : Sg) : (synS x).1.o.length ≤ x.o.length + 1 := by
  unfold synS
  cases h : sOk x
  · show 0 ≤ _; omega
  · cases x.p
    · show x.o.length ≤ _; omega
    · show (synO x).length ≤ _
      unfold synO; split
      · simp
      · omega
theorem fallS_len2 (x : Sg) : (fallS x).1.o.length ≤ x.o.length + 1 := by
  unfold fallS
  cases h : sOk x
  · show 0 ≤ _; omega
  · show x.o.length ≤ _; omega
theorem SSt.hB {w wx : World} {g B r s c : Nat} {z : Sg} {a : Option Addr} (h : SSt w wx g B r s z a c) : B ≤ wx.heap.size := Nat.le_trans h.fk h.fg.size
/-- A store into a block that is neither the signer's nor its row's. -/
theorem SSt.aside {w wx : World} {g B r s c n : Nat} {z : Sg} {a : Option Addr} (h : SSt w wx g B r s z a c) (k : Nat) (u : Value) (hne : (Value.slice a z.o.length c).ownBlock ≠ some n) (hs : n ≠ s) (hr : n ≠ r) (hn : w.heap.size ≤ n) : SSt w (wx.setCell ⟨n, k, none⟩ u) g B r s z a c := by
  have hgr : wx.grownBy (wx.setCell ⟨n, k, none⟩ u) (some n) := gr_set _ _ _ _
  have hbl : Below w.heap.size wx _ := (Below.refl w.heap.size wx).grown hgr h.fg.size (fun j e => by injection e with e; omega)
  exact ⟨h.fb.grown hgr (fun e => by injection e with e; exact hs e), h.fz.grown hgr (fun e => by injection e with e; exact hr e), World.ownsRow.kept (show wx.ownsRow w.heap.size 31 5 _ _ _ from h.fo) hgr (.inr hne), h.fd.below (hbl.mono h.fk), gr_below h.fg hbl, h.fs, h.fr, h.fn, h.fl, h.fk⟩
theorem SSt.old {w wx : World} {g B r s c n : Nat} {z : Sg} {a : Option Addr} (h : SSt w wx g B r s z a c) (hn : wx.heap.size ≤ n) : (Value.slice a z.o.length c).ownBlock ≠ some n := fun e => by
  have := (World.ownsRow.lt (show wx.ownsRow w.heap.size 31 5 _ _ _ from h.fo) n e).2
  omega
/-- The signer copied into the result's block. -/
theorem SSt.res {w wx : World} {g B r s c : Nat} {z : Sg} {a : Option Addr} (h : SSt w wx g B r s z a c) :
    let W := (((((((((((wx.setCell ⟨r, 0, none⟩ (.int .i64 z.v)).setCell ⟨r, 1, none⟩ (.int .i64 z.d.h)).setCell ⟨r, 2, none⟩ (.int .i64 z.d.r)).setCell ⟨r, 3, none⟩ (.int .i64 z.d.s)).setCell ⟨r, 4, none⟩ (.string z.d.i)).setCell ⟨r, 5, none⟩ (.int .i64 z.m.h)).setCell ⟨r, 6, none⟩ (.int .i64 z.m.r)).setCell ⟨r, 7, none⟩ (.int .i64 z.m.s)).setCell ⟨r, 8, none⟩ (.string z.m.i)).setCell ⟨r, 9, none⟩ (.bool z.p)).setCell ⟨r, 10, none⟩ (.slice a z.o.length c))
    Blk W r (sL z (.slice a z.o.length c)) 29 ∧ OwnY W w.heap.size (.slice a z.o.length c) z.o ∧ DS W g B ∧ w.grownBy W (some g) := by
  intro W
  have hgr : wx.grownBy W (some r) :=
    grown_set (grown_set (grown_set (grown_set (grown_set (grown_set (grown_set (grown_set (grown_set (grown_set (grown_set (grown_refl _ _) _) _) _) _) _) _) _) _) _) _) _
  have hbl : Below w.heap.size wx W := (Below.refl w.heap.size wx).grown hgr h.fg.size (fun j e => by injection e with e; have := h.fr; omega)
  have hb := h.fz
  unfold zL at hb
  have hB := ((((((((((hb.set 0 (.int .i64 z.v)).set 1 (.int .i64 z.d.h)).set 2 (.int .i64 z.d.r)).set 3 (.int .i64 z.d.s)).set 4 (.string z.d.i)).set 5 (.int .i64 z.m.h)).set 6 (.int .i64 z.m.r)).set 7 (.int .i64 z.m.s)).set 8 (.string z.m.i)).set 9 (.bool z.p)).set 10 (.slice a z.o.length c)
  exact ⟨hB, own_aside h.fo hgr h.fz, h.fd.below (hbl.mono h.fk), gr_below h.fg hbl⟩
set_option maxHeartbeats 12800000 in
set_option maxRecDepth 100000 in
theorem some_d (g B : Nat) (most : Int) (w : World) (hd : DS w g B) (hB : B ≤ w.heap.size) (hm0 : 0 < most) (hm1 : most ≤ 20) :
    Calls Try.prog 46 #[.pointer (some ⟨g, 0, none⟩), .int .i64 most] w fun e w' => ∃ (z : Sg) (a : Option Addr) (c : Nat), e = .returned (sV z a c) ∧ Hid (OwnY w' w.heap.size (.slice a z.o.length c) z.o) ∧ Hid (z.o.length ≤ 21) ∧ Hid (DS w' g B) ∧ Hid (w.grownBy w' (some g)) := by
  have HZ0 : Hid (Blk (w.alloc (.cells [.int .i64 0, .int .i64 0, .int .i64 0, .int .i64 0, .string ⟨#[]⟩, .int .i64 0, .int .i64 0, .int .i64 0, .string ⟨#[]⟩, .bool false, .slice none 0 0].toArray 29)) w.heap.size zL 29) := blk_new w _ _
  have HD0 : Hid (DS (w.alloc (.cells [.int .i64 0, .int .i64 0, .int .i64 0, .int .i64 0, .string ⟨#[]⟩, .int .i64 0, .int .i64 0, .int .i64 0, .string ⟨#[]⟩, .bool false, .slice none 0 0].toArray 29)) g B) := hd.below ((Below.refl _ _).alloc hB _)
  have HG0 : Hid (w.grownBy (w.alloc (.cells [.int .i64 0, .int .i64 0, .int .i64 0, .int .i64 0, .string ⟨#[]⟩, .int .i64 0, .int .i64 0, .int .i64 0, .string ⟨#[]⟩, .bool false, .slice none 0 0].toArray 29)) (some g)) := grown_alloc (grown_refl _ _) _
  have hg : g < w.heap.size := hd.lt'
  clear hd
  go_enter Try.func46, Try.ntmps46
  go_wp2_with fail
  generalize w.alloc (Obj.cells #[.int .i64 0, .int .i64 0, .int .i64 0, .int .i64 0, .string ⟨#[]⟩, .int .i64 0, .int .i64 0, .int .i64 0, .string ⟨#[]⟩, .bool false, .slice none 0 0] 29) = w0 at *
  refine (below_d g B 3 _ HD0.out (by omega)).mono ?_
  rintro e w1 ⟨d, rfl, d0, d1, HD1, HG1⟩
  obtain ⟨ns, hns⟩ : ∃ n, w1.heap.size = n := ⟨_, rfl⟩
  have HS2 : Hid (SSt w (w1.alloc (.cells #[.int .i64 (1 + d), .int .i64 0, .int .i64 0, .int .i64 0, .string ⟨#[]⟩, .int .i64 0, .int .i64 0, .int .i64 0, .string ⟨#[]⟩, .bool false, .slice none 0 0] 29)) g B w.heap.size ns ⟨1 + d, ⟨0, 0, 0, ⟨#[]⟩⟩, ⟨0, 0, 0, ⟨#[]⟩⟩, false, []⟩ none 0) := by
    have hg1 := grown_trans HG0.out HG1.out
    have hz1 := HZ0.out.grown HG1.out (fun e => by injection e with e; omega)
    rw [← hns]
    exact ⟨blk_new w1 _ _, hz1.alloc _, OwnY.nil _ _, HD1.out.below ((Below.refl _ _).alloc (by have := hg1.size; omega) _), grown_alloc hg1 _, hg1.size, Nat.le_refl _, by have := hz1.lt; omega, hg, hB⟩
  clear HZ0 HD0 HG0 HD1 HG1
  go_wp2_with fail
  generalize w1.alloc (.cells #[.int .i64 (1 + d), .int .i64 0, .int .i64 0, .int .i64 0, .string ⟨#[]⟩, .int .i64 0, .int .i64 0, .int .i64 0, .string ⟨#[]⟩, .bool false, .slice none 0 0] 29) = w2 at *
  rw [hns] at *
  clear hns
  refine (below_d g B most _ HS2.out.fd hm0).mono ?_
  rintro e w3 ⟨n, rfl, n0, n1, HD3, HG3⟩
  have HS3 : Hid (SSt w w3 g B w.heap.size ns ⟨1 + d, ⟨0, 0, 0, ⟨#[]⟩⟩, ⟨0, 0, 0, ⟨#[]⟩⟩, false, []⟩ none 0) := HS2.out.call HD3.out HG3.out
  clear HS2 HD3 HG3
  obtain ⟨k0, rfl⟩ : ∃ k0 : Nat, n = k0 := ⟨n.toNat, by omega⟩
  have hk0 : k0 ≤ 20 := by omega
  clear n0 n1
  go_wp2
  go_loopw [6] (fun iv wr => ∃ (k : Nat) (z : Sg) (a : Option Addr) (c : Nat), iv = .int .i64 (k : Int) ∧ z.o.length + k ≤ 20 ∧ Hid (SSt w wr g B w.heap.size ns z a c)) (fun iv _ => (intOf iv).toNat)
  case atStart => exact ⟨k0, _, _, _, rfl, by simp only [List.length_nil]; omega, HS3⟩
  case round =>
    obtain ⟨k, z, a, c, rfl, hk, HS⟩ := hrel
    clear HS3
    by_cases hlt : 0 < k
    · have hltz : (k : Int) > 0 := by omega
      obtain ⟨k', rfl⟩ : ∃ k', k = k' + 1 := ⟨k - 1, by omega⟩
      obtain ⟨v, ⟨dh, dr, ds, di⟩, ⟨mh, mr, ms, mi⟩, p, o⟩ := z
      simp only at hk
      go_wp2_with fail
      refine (below_d g B 6 _ HS.out.fd (by omega)).mono ?_
      rintro e wa ⟨y, rfl, y0, y1, HDa, HGa⟩
      have HSa : Hid (SSt w wa g B w.heap.size ns ⟨v, ⟨dh, dr, ds, di⟩, ⟨mh, mr, ms, mi⟩, p, o⟩ a c) := HS.out.call HDa.out HGa.out
      clear HS HDa HGa hlt
      have hy : y = 0 ∨ y = 1 ∨ y = 2 ∨ y = 3 ∨ y = 4 ∨ y = 5 := by omega
      clear y0 y1
      rcases hy with rfl | rfl | rfl | rfl | rfl | rfl
      · skip
        go_wp2_with fail
        refine (vote_d g B _ HSa.out.fd HSa.out.hB).mono ?_
        rintro e wb ⟨q, rfl, _, HDb, HGb⟩
        have HSb : Hid (SSt w wb g B w.heap.size ns ⟨v, ⟨dh, dr, ds, di⟩, ⟨mh, mr, ms, mi⟩, p, o⟩ a c) := HSa.out.call HDb.out HGb.out
        clear HSa HDb HGb
        obtain ⟨yh, yr, ys, yi, yv⟩ := q
        unfold tV
        simp only
        obtain ⟨nV, hnV⟩ : ∃ n, wb.heap.size = n := ⟨_, rfl⟩
        obtain ⟨wc, hwc⟩ : ∃ W, wb.alloc (.cells #[.int .i64 yh, .int .i64 yr, .int .i64 ys, .string yi, .int .i64 yv] 31) = W := ⟨_, rfl⟩
        have HSc : Hid (SSt w wc g B w.heap.size ns ⟨v, ⟨dh, dr, ds, di⟩, ⟨mh, mr, ms, mi⟩, p, o⟩ a c) := by rw [← hwc]; exact HSb.out.alloc _
        have HVc : Hid (Blk wc nV [.int .i64 yh, .int .i64 yr, .int .i64 ys, .string yi, .int .i64 yv] 31) := by rw [← hwc, ← hnV]; exact blk_new _ _ _
        have HnV : Hid (w.heap.size ≤ nV ∧ nV ≠ ns ∧ nV ≠ w.heap.size ∧ nV ≠ g ∧ (Value.slice a o.length c).ownBlock ≠ some nV) := by
          have h1 := HSb.out.fb.lt; have h2 := HSb.out.fz.lt; have h3 := HSb.out.fg.size; have h4 := HSb.out.fl
          exact ⟨by omega, by omega, by omega, by omega, HSb.out.old (by omega)⟩
        clear HSb
        go_wp2_with fail
        clear hwc hnV
        refine (once_d g B 8 _ HSc.out.fd).mono ?_
        rintro e wd ⟨t, rfl, HDd, HGd⟩
        have HSd : Hid (SSt w wd g B w.heap.size ns ⟨v, ⟨dh, dr, ds, di⟩, ⟨mh, mr, ms, mi⟩, p, o⟩ a c) := HSc.out.call HDd.out HGd.out
        have HVd : Hid (Blk wd nV [.int .i64 yh, .int .i64 yr, .int .i64 ys, .string yi, .int .i64 yv] 31) := HVc.out.grown HGd.out (fun e => by injection e with e; exact HnV.out.2.2.2.1 e.symm)
        clear HSc HVc HDd HGd
        rcases t with _ | _
        · have HSe : Hid (SSt w (wd.setCell ⟨nV, 4, none⟩ (.int .i64 v)) g B w.heap.size ns ⟨v, ⟨dh, dr, ds, di⟩, ⟨mh, mr, ms, mi⟩, p, o⟩ a c) := HSd.out.aside 4 _ HnV.out.2.2.2.2 HnV.out.2.1 HnV.out.2.2.1 HnV.out.1
          have HVe : Hid (Blk (wd.setCell ⟨nV, 4, none⟩ (.int .i64 v)) nV [.int .i64 yh, .int .i64 yr, .int .i64 ys, .string yi, .int .i64 v] 31) := HVd.out.set 4 (.int .i64 v)
          have s_0 : wd.cell? ⟨ns, 0, none⟩ = some (.int .i64 v) := HSd.out.fb.cell 0 rfl
          have s_1 : wd.cell? ⟨ns, 1, none⟩ = some (.int .i64 dh) := HSd.out.fb.cell 1 rfl
          have s_2 : wd.cell? ⟨ns, 2, none⟩ = some (.int .i64 dr) := HSd.out.fb.cell 2 rfl
          have s_3 : wd.cell? ⟨ns, 3, none⟩ = some (.int .i64 ds) := HSd.out.fb.cell 3 rfl
          have s_4 : wd.cell? ⟨ns, 4, none⟩ = some (.string di) := HSd.out.fb.cell 4 rfl
          have s_5 : wd.cell? ⟨ns, 5, none⟩ = some (.int .i64 mh) := HSd.out.fb.cell 5 rfl
          have s_6 : wd.cell? ⟨ns, 6, none⟩ = some (.int .i64 mr) := HSd.out.fb.cell 6 rfl
          have s_7 : wd.cell? ⟨ns, 7, none⟩ = some (.int .i64 ms) := HSd.out.fb.cell 7 rfl
          have s_8 : wd.cell? ⟨ns, 8, none⟩ = some (.string mi) := HSd.out.fb.cell 8 rfl
          have s_9 : wd.cell? ⟨ns, 9, none⟩ = some (.bool p) := HSd.out.fb.cell 9 rfl
          have s_10 : wd.cell? ⟨ns, 10, none⟩ = some (.slice a o.length c) := HSd.out.fb.cell 10 rfl
          have y_0 := HVd.out.cell 0 rfl
          have y_1 := HVd.out.cell 1 rfl
          have y_2 := HVd.out.cell 2 rfl
          have y_3 := HVd.out.cell 3 rfl
          have y_4 := HVd.out.cell 4 rfl
          have y_f := fun j => HVd.out.frozen j
          clear HSd HVd HnV
          go_upto_region 14 with fail
          clear s_0 s_1 s_2 s_3 s_4 s_5 s_6 s_7 s_8 s_9 s_10 y_0 y_1 y_2 y_3 y_4 y_f
          generalize (wd.setCell ⟨nV, 4, none⟩ (.int .i64 v)) = we at *
          have y_0 := HVe.out.cell 0 rfl
          have y_1 := HVe.out.cell 1 rfl
          have y_2 := HVe.out.cell 2 rfl
          have y_3 := HVe.out.cell 3 rfl
          have y_4 := HVe.out.cell 4 rfl
          have s_0 : we.cell? ⟨ns, 0, none⟩ = some (.int .i64 v) := HSe.out.fb.cell 0 rfl
          have s_1 : we.cell? ⟨ns, 1, none⟩ = some (.int .i64 dh) := HSe.out.fb.cell 1 rfl
          have s_2 : we.cell? ⟨ns, 2, none⟩ = some (.int .i64 dr) := HSe.out.fb.cell 2 rfl
          have s_3 : we.cell? ⟨ns, 3, none⟩ = some (.int .i64 ds) := HSe.out.fb.cell 3 rfl
          have s_4 : we.cell? ⟨ns, 4, none⟩ = some (.string di) := HSe.out.fb.cell 4 rfl
          have s_5 : we.cell? ⟨ns, 5, none⟩ = some (.int .i64 mh) := HSe.out.fb.cell 5 rfl
          have s_6 : we.cell? ⟨ns, 6, none⟩ = some (.int .i64 mr) := HSe.out.fb.cell 6 rfl
          have s_7 : we.cell? ⟨ns, 7, none⟩ = some (.int .i64 ms) := HSe.out.fb.cell 7 rfl
          have s_8 : we.cell? ⟨ns, 8, none⟩ = some (.string mi) := HSe.out.fb.cell 8 rfl
          have s_9 : we.cell? ⟨ns, 9, none⟩ = some (.bool p) := HSe.out.fb.cell 9 rfl
          have s_10 : we.cell? ⟨ns, 10, none⟩ = some (.slice a o.length c) := HSe.out.fb.cell 10 rfl
          have kA := spec_ask ⟨v, ⟨dh, dr, ds, di⟩, ⟨mh, mr, ms, mi⟩, p, o⟩ ⟨yh, yr, ys, yi, v⟩ a c we HSe.out.yo HSe.out.hz (by simp only; omega)
          have hl2 := askS_len ⟨v, ⟨dh, dr, ds, di⟩, ⟨mh, mr, ms, mi⟩, p, o⟩ ⟨yh, yr, ys, yi, v⟩
          unfold sV sQ tV at kA
          simp only at kA hl2
          generalize (askS ⟨v, ⟨dh, dr, ds, di⟩, ⟨mh, mr, ms, mi⟩, p, o⟩ ⟨yh, yr, ys, yi, v⟩).1 = z2 at kA hl2
          generalize (askS ⟨v, ⟨dh, dr, ds, di⟩, ⟨mh, mr, ms, mi⟩, p, o⟩ ⟨yh, yr, ys, yi, v⟩).2 = c2 at kA
          obtain ⟨zv, ⟨zdh, zdr, zds, zdi⟩, ⟨zmh, zmr, zms, zmi⟩, zp, zo⟩ := z2
          simp only at kA hl2
          go_wp2_with fail
          clear s_0 s_1 s_2 s_3 s_4 s_5 s_6 s_7 s_8 s_9 s_10 y_0 y_1 y_2 y_3 y_4 HVe
          refine kA.mono ?_
          rintro e wf ⟨qa, qc, rfl, HQ, bb⟩
          have HSf : Hid (SSt w wf g B w.heap.size ns ⟨v, ⟨dh, dr, ds, di⟩, ⟨mh, mr, ms, mi⟩, p, o⟩ a c) := HSe.out.below bb
          have HQf : Hid (OwnY wf w.heap.size (.slice qa zo.length qc) zo) := own_less HQ.out HSe.out.fg.size
          obtain ⟨nT, hnT⟩ : ∃ n, wf.heap.size = n := ⟨_, rfl⟩
          obtain ⟨wg, hwg⟩ : ∃ W, wf.alloc (.cells #[.int .i64 zv, .int .i64 zdh, .int .i64 zdr, .int .i64 zds, .string zdi, .int .i64 zmh, .int .i64 zmr, .int .i64 zms, .string zmi, .bool zp, .slice qa zo.length qc] 29) = W := ⟨_, rfl⟩
          have HSg : Hid (SSt w wg g B w.heap.size ns ⟨v, ⟨dh, dr, ds, di⟩, ⟨mh, mr, ms, mi⟩, p, o⟩ a c) := by rw [← hwg]; exact HSf.out.alloc _
          have HTg : Hid (Blk wg nT [.int .i64 zv, .int .i64 zdh, .int .i64 zdr, .int .i64 zds, .string zdi, .int .i64 zmh, .int .i64 zmr, .int .i64 zms, .string zmi, .bool zp, .slice qa zo.length qc] 29) := by rw [← hwg, ← hnT]; exact blk_new _ _ _
          have HQg : Hid (OwnY wg w.heap.size (.slice qa zo.length qc) zo) := by rw [← hwg]; exact own_keep HQf.out (below_one _ _)
          have HP : Hid (SSt w (((((((((((wg.setCell ⟨ns, 0, none⟩ (.int .i64 zv)).setCell ⟨ns, 1, none⟩ (.int .i64 zdh)).setCell ⟨ns, 2, none⟩ (.int .i64 zdr)).setCell ⟨ns, 3, none⟩ (.int .i64 zds)).setCell ⟨ns, 4, none⟩ (.string zdi)).setCell ⟨ns, 5, none⟩ (.int .i64 zmh)).setCell ⟨ns, 6, none⟩ (.int .i64 zmr)).setCell ⟨ns, 7, none⟩ (.int .i64 zms)).setCell ⟨ns, 8, none⟩ (.string zmi)).setCell ⟨ns, 9, none⟩ (.bool zp)).setCell ⟨ns, 10, none⟩ (.slice qa zo.length qc)) g B w.heap.size ns ⟨zv, ⟨zdh, zdr, zds, zdi⟩, ⟨zmh, zmr, zms, zmi⟩, zp, zo⟩ qa qc) := HSg.out.put (z' := ⟨zv, ⟨zdh, zdr, zds, zdi⟩, ⟨zmh, zmr, zms, zmi⟩, zp, zo⟩) HQg.out
          clear kA HQ bb HSf HQf HSe
          have s_0 : wg.cell? ⟨ns, 0, none⟩ = some (.int .i64 v) := HSg.out.fb.cell 0 rfl
          have s_1 : wg.cell? ⟨ns, 1, none⟩ = some (.int .i64 dh) := HSg.out.fb.cell 1 rfl
          have s_2 : wg.cell? ⟨ns, 2, none⟩ = some (.int .i64 dr) := HSg.out.fb.cell 2 rfl
          have s_3 : wg.cell? ⟨ns, 3, none⟩ = some (.int .i64 ds) := HSg.out.fb.cell 3 rfl
          have s_4 : wg.cell? ⟨ns, 4, none⟩ = some (.string di) := HSg.out.fb.cell 4 rfl
          have s_5 : wg.cell? ⟨ns, 5, none⟩ = some (.int .i64 mh) := HSg.out.fb.cell 5 rfl
          have s_6 : wg.cell? ⟨ns, 6, none⟩ = some (.int .i64 mr) := HSg.out.fb.cell 6 rfl
          have s_7 : wg.cell? ⟨ns, 7, none⟩ = some (.int .i64 ms) := HSg.out.fb.cell 7 rfl
          have s_8 : wg.cell? ⟨ns, 8, none⟩ = some (.string mi) := HSg.out.fb.cell 8 rfl
          have s_9 : wg.cell? ⟨ns, 9, none⟩ = some (.bool p) := HSg.out.fb.cell 9 rfl
          have s_10 : wg.cell? ⟨ns, 10, none⟩ = some (.slice a o.length c) := HSg.out.fb.cell 10 rfl
          have s_f := fun j => HSg.out.fb.frozen j
          have t_0 := HTg.out.cell 0 rfl
          have t_1 := HTg.out.cell 1 rfl
          have t_2 := HTg.out.cell 2 rfl
          have t_3 := HTg.out.cell 3 rfl
          have t_4 := HTg.out.cell 4 rfl
          have t_5 := HTg.out.cell 5 rfl
          have t_6 := HTg.out.cell 6 rfl
          have t_7 := HTg.out.cell 7 rfl
          have t_8 := HTg.out.cell 8 rfl
          have t_9 := HTg.out.cell 9 rfl
          have t_10 := HTg.out.cell 10 rfl
          clear HSg HTg HQg
          go_wp2
          clear s_0 s_1 s_2 s_3 s_4 s_5 s_6 s_7 s_8 s_9 s_10 s_f t_0 t_1 t_2 t_3 t_4 t_5 t_6 t_7 t_8 t_9 t_10 hwg hnT
          go_roundw
          case rel =>
            have hZl : zo.length + k' ≤ 20 := by omega
            first | exact ⟨k', ⟨zv, ⟨zdh, zdr, zds, zdi⟩, ⟨zmh, zmr, zms, zmi⟩, zp, zo⟩, qa, qc, rfl, hZl, HP⟩ | exact ⟨k', ⟨zv, ⟨zdh, zdr, zds, zdi⟩, ⟨zmh, zmr, zms, zmi⟩, zp, zo⟩, qa, qc, (by congr 1; omega), hZl, HP⟩
          case measure => simp [intOf] <;> omega
        · clear HnV
          have y_0 := HVd.out.cell 0 rfl
          have y_1 := HVd.out.cell 1 rfl
          have y_2 := HVd.out.cell 2 rfl
          have y_3 := HVd.out.cell 3 rfl
          have y_4 := HVd.out.cell 4 rfl
          have s_0 : wd.cell? ⟨ns, 0, none⟩ = some (.int .i64 v) := HSd.out.fb.cell 0 rfl
          have s_1 : wd.cell? ⟨ns, 1, none⟩ = some (.int .i64 dh) := HSd.out.fb.cell 1 rfl
          have s_2 : wd.cell? ⟨ns, 2, none⟩ = some (.int .i64 dr) := HSd.out.fb.cell 2 rfl
          have s_3 : wd.cell? ⟨ns, 3, none⟩ = some (.int .i64 ds) := HSd.out.fb.cell 3 rfl
          have s_4 : wd.cell? ⟨ns, 4, none⟩ = some (.string di) := HSd.out.fb.cell 4 rfl
          have s_5 : wd.cell? ⟨ns, 5, none⟩ = some (.int .i64 mh) := HSd.out.fb.cell 5 rfl
          have s_6 : wd.cell? ⟨ns, 6, none⟩ = some (.int .i64 mr) := HSd.out.fb.cell 6 rfl
          have s_7 : wd.cell? ⟨ns, 7, none⟩ = some (.int .i64 ms) := HSd.out.fb.cell 7 rfl
          have s_8 : wd.cell? ⟨ns, 8, none⟩ = some (.string mi) := HSd.out.fb.cell 8 rfl
          have s_9 : wd.cell? ⟨ns, 9, none⟩ = some (.bool p) := HSd.out.fb.cell 9 rfl
          have s_10 : wd.cell? ⟨ns, 10, none⟩ = some (.slice a o.length c) := HSd.out.fb.cell 10 rfl
          have kA := spec_ask ⟨v, ⟨dh, dr, ds, di⟩, ⟨mh, mr, ms, mi⟩, p, o⟩ ⟨yh, yr, ys, yi, yv⟩ a c wd HSd.out.yo HSd.out.hz (by simp only; omega)
          have hl2 := askS_len ⟨v, ⟨dh, dr, ds, di⟩, ⟨mh, mr, ms, mi⟩, p, o⟩ ⟨yh, yr, ys, yi, yv⟩
          unfold sV sQ tV at kA
          simp only at kA hl2
          generalize (askS ⟨v, ⟨dh, dr, ds, di⟩, ⟨mh, mr, ms, mi⟩, p, o⟩ ⟨yh, yr, ys, yi, yv⟩).1 = z2 at kA hl2
          generalize (askS ⟨v, ⟨dh, dr, ds, di⟩, ⟨mh, mr, ms, mi⟩, p, o⟩ ⟨yh, yr, ys, yi, yv⟩).2 = c2 at kA
          obtain ⟨zv, ⟨zdh, zdr, zds, zdi⟩, ⟨zmh, zmr, zms, zmi⟩, zp, zo⟩ := z2
          simp only at kA hl2
          go_wp2_with fail
          clear s_0 s_1 s_2 s_3 s_4 s_5 s_6 s_7 s_8 s_9 s_10 y_0 y_1 y_2 y_3 y_4 HVd
          refine kA.mono ?_
          rintro e wf ⟨qa, qc, rfl, HQ, bb⟩
          have HSf : Hid (SSt w wf g B w.heap.size ns ⟨v, ⟨dh, dr, ds, di⟩, ⟨mh, mr, ms, mi⟩, p, o⟩ a c) := HSd.out.below bb
          have HQf : Hid (OwnY wf w.heap.size (.slice qa zo.length qc) zo) := own_less HQ.out HSd.out.fg.size
          obtain ⟨nT, hnT⟩ : ∃ n, wf.heap.size = n := ⟨_, rfl⟩
          obtain ⟨wg, hwg⟩ : ∃ W, wf.alloc (.cells #[.int .i64 zv, .int .i64 zdh, .int .i64 zdr, .int .i64 zds, .string zdi, .int .i64 zmh, .int .i64 zmr, .int .i64 zms, .string zmi, .bool zp, .slice qa zo.length qc] 29) = W := ⟨_, rfl⟩
          have HSg : Hid (SSt w wg g B w.heap.size ns ⟨v, ⟨dh, dr, ds, di⟩, ⟨mh, mr, ms, mi⟩, p, o⟩ a c) := by rw [← hwg]; exact HSf.out.alloc _
          have HTg : Hid (Blk wg nT [.int .i64 zv, .int .i64 zdh, .int .i64 zdr, .int .i64 zds, .string zdi, .int .i64 zmh, .int .i64 zmr, .int .i64 zms, .string zmi, .bool zp, .slice qa zo.length qc] 29) := by rw [← hwg, ← hnT]; exact blk_new _ _ _
          have HQg : Hid (OwnY wg w.heap.size (.slice qa zo.length qc) zo) := by rw [← hwg]; exact own_keep HQf.out (below_one _ _)
          have HP : Hid (SSt w (((((((((((wg.setCell ⟨ns, 0, none⟩ (.int .i64 zv)).setCell ⟨ns, 1, none⟩ (.int .i64 zdh)).setCell ⟨ns, 2, none⟩ (.int .i64 zdr)).setCell ⟨ns, 3, none⟩ (.int .i64 zds)).setCell ⟨ns, 4, none⟩ (.string zdi)).setCell ⟨ns, 5, none⟩ (.int .i64 zmh)).setCell ⟨ns, 6, none⟩ (.int .i64 zmr)).setCell ⟨ns, 7, none⟩ (.int .i64 zms)).setCell ⟨ns, 8, none⟩ (.string zmi)).setCell ⟨ns, 9, none⟩ (.bool zp)).setCell ⟨ns, 10, none⟩ (.slice qa zo.length qc)) g B w.heap.size ns ⟨zv, ⟨zdh, zdr, zds, zdi⟩, ⟨zmh, zmr, zms, zmi⟩, zp, zo⟩ qa qc) := HSg.out.put (z' := ⟨zv, ⟨zdh, zdr, zds, zdi⟩, ⟨zmh, zmr, zms, zmi⟩, zp, zo⟩) HQg.out
          clear kA HQ bb HSf HQf HSd
          have s_0 : wg.cell? ⟨ns, 0, none⟩ = some (.int .i64 v) := HSg.out.fb.cell 0 rfl
          have s_1 : wg.cell? ⟨ns, 1, none⟩ = some (.int .i64 dh) := HSg.out.fb.cell 1 rfl
          have s_2 : wg.cell? ⟨ns, 2, none⟩ = some (.int .i64 dr) := HSg.out.fb.cell 2 rfl
          have s_3 : wg.cell? ⟨ns, 3, none⟩ = some (.int .i64 ds) := HSg.out.fb.cell 3 rfl
          have s_4 : wg.cell? ⟨ns, 4, none⟩ = some (.string di) := HSg.out.fb.cell 4 rfl
          have s_5 : wg.cell? ⟨ns, 5, none⟩ = some (.int .i64 mh) := HSg.out.fb.cell 5 rfl
          have s_6 : wg.cell? ⟨ns, 6, none⟩ = some (.int .i64 mr) := HSg.out.fb.cell 6 rfl
          have s_7 : wg.cell? ⟨ns, 7, none⟩ = some (.int .i64 ms) := HSg.out.fb.cell 7 rfl
          have s_8 : wg.cell? ⟨ns, 8, none⟩ = some (.string mi) := HSg.out.fb.cell 8 rfl
          have s_9 : wg.cell? ⟨ns, 9, none⟩ = some (.bool p) := HSg.out.fb.cell 9 rfl
          have s_10 : wg.cell? ⟨ns, 10, none⟩ = some (.slice a o.length c) := HSg.out.fb.cell 10 rfl
          have s_f := fun j => HSg.out.fb.frozen j
          have t_0 := HTg.out.cell 0 rfl
          have t_1 := HTg.out.cell 1 rfl
          have t_2 := HTg.out.cell 2 rfl
          have t_3 := HTg.out.cell 3 rfl
          have t_4 := HTg.out.cell 4 rfl
          have t_5 := HTg.out.cell 5 rfl
          have t_6 := HTg.out.cell 6 rfl
          have t_7 := HTg.out.cell 7 rfl
          have t_8 := HTg.out.cell 8 rfl
          have t_9 := HTg.out.cell 9 rfl
          have t_10 := HTg.out.cell 10 rfl
          clear HSg HTg HQg
          go_wp2
          clear s_0 s_1 s_2 s_3 s_4 s_5 s_6 s_7 s_8 s_9 s_10 s_f t_0 t_1 t_2 t_3 t_4 t_5 t_6 t_7 t_8 t_9 t_10 hwg hnT
          go_roundw
          case rel =>
            have hZl : zo.length + k' ≤ 20 := by omega
            first | exact ⟨k', ⟨zv, ⟨zdh, zdr, zds, zdi⟩, ⟨zmh, zmr, zms, zmi⟩, zp, zo⟩, qa, qc, rfl, hZl, HP⟩ | exact ⟨k', ⟨zv, ⟨zdh, zdr, zds, zdi⟩, ⟨zmh, zmr, zms, zmi⟩, zp, zo⟩, qa, qc, (by congr 1; omega), hZl, HP⟩
          case measure => simp [intOf] <;> omega
      · skip
        go_wp2_with fail
        refine (vote_d g B _ HSa.out.fd HSa.out.hB).mono ?_
        rintro e wb ⟨q, rfl, _, HDb, HGb⟩
        have HSb : Hid (SSt w wb g B w.heap.size ns ⟨v, ⟨dh, dr, ds, di⟩, ⟨mh, mr, ms, mi⟩, p, o⟩ a c) := HSa.out.call HDb.out HGb.out
        clear HSa HDb HGb
        obtain ⟨yh, yr, ys, yi, yv⟩ := q
        unfold tV
        simp only
        obtain ⟨nV, hnV⟩ : ∃ n, wb.heap.size = n := ⟨_, rfl⟩
        obtain ⟨wc, hwc⟩ : ∃ W, wb.alloc (.cells #[.int .i64 yh, .int .i64 yr, .int .i64 ys, .string yi, .int .i64 yv] 31) = W := ⟨_, rfl⟩
        have HSc : Hid (SSt w wc g B w.heap.size ns ⟨v, ⟨dh, dr, ds, di⟩, ⟨mh, mr, ms, mi⟩, p, o⟩ a c) := by rw [← hwc]; exact HSb.out.alloc _
        have HVc : Hid (Blk wc nV [.int .i64 yh, .int .i64 yr, .int .i64 ys, .string yi, .int .i64 yv] 31) := by rw [← hwc, ← hnV]; exact blk_new _ _ _
        have HnV : Hid (w.heap.size ≤ nV ∧ nV ≠ ns ∧ nV ≠ w.heap.size ∧ nV ≠ g ∧ (Value.slice a o.length c).ownBlock ≠ some nV) := by
          have h1 := HSb.out.fb.lt; have h2 := HSb.out.fz.lt; have h3 := HSb.out.fg.size; have h4 := HSb.out.fl
          exact ⟨by omega, by omega, by omega, by omega, HSb.out.old (by omega)⟩
        clear HSb
        go_wp2_with fail
        clear hwc hnV
        refine (once_d g B 8 _ HSc.out.fd).mono ?_
        rintro e wd ⟨t, rfl, HDd, HGd⟩
        have HSd : Hid (SSt w wd g B w.heap.size ns ⟨v, ⟨dh, dr, ds, di⟩, ⟨mh, mr, ms, mi⟩, p, o⟩ a c) := HSc.out.call HDd.out HGd.out
        have HVd : Hid (Blk wd nV [.int .i64 yh, .int .i64 yr, .int .i64 ys, .string yi, .int .i64 yv] 31) := HVc.out.grown HGd.out (fun e => by injection e with e; exact HnV.out.2.2.2.1 e.symm)
        clear HSc HVc HDd HGd
        rcases t with _ | _
        · have HSe : Hid (SSt w (wd.setCell ⟨nV, 4, none⟩ (.int .i64 v)) g B w.heap.size ns ⟨v, ⟨dh, dr, ds, di⟩, ⟨mh, mr, ms, mi⟩, p, o⟩ a c) := HSd.out.aside 4 _ HnV.out.2.2.2.2 HnV.out.2.1 HnV.out.2.2.1 HnV.out.1
          have HVe : Hid (Blk (wd.setCell ⟨nV, 4, none⟩ (.int .i64 v)) nV [.int .i64 yh, .int .i64 yr, .int .i64 ys, .string yi, .int .i64 v] 31) := HVd.out.set 4 (.int .i64 v)
          have s_0 : wd.cell? ⟨ns, 0, none⟩ = some (.int .i64 v) := HSd.out.fb.cell 0 rfl
          have s_1 : wd.cell? ⟨ns, 1, none⟩ = some (.int .i64 dh) := HSd.out.fb.cell 1 rfl
          have s_2 : wd.cell? ⟨ns, 2, none⟩ = some (.int .i64 dr) := HSd.out.fb.cell 2 rfl
          have s_3 : wd.cell? ⟨ns, 3, none⟩ = some (.int .i64 ds) := HSd.out.fb.cell 3 rfl
          have s_4 : wd.cell? ⟨ns, 4, none⟩ = some (.string di) := HSd.out.fb.cell 4 rfl
          have s_5 : wd.cell? ⟨ns, 5, none⟩ = some (.int .i64 mh) := HSd.out.fb.cell 5 rfl
          have s_6 : wd.cell? ⟨ns, 6, none⟩ = some (.int .i64 mr) := HSd.out.fb.cell 6 rfl
          have s_7 : wd.cell? ⟨ns, 7, none⟩ = some (.int .i64 ms) := HSd.out.fb.cell 7 rfl
          have s_8 : wd.cell? ⟨ns, 8, none⟩ = some (.string mi) := HSd.out.fb.cell 8 rfl
          have s_9 : wd.cell? ⟨ns, 9, none⟩ = some (.bool p) := HSd.out.fb.cell 9 rfl
          have s_10 : wd.cell? ⟨ns, 10, none⟩ = some (.slice a o.length c) := HSd.out.fb.cell 10 rfl
          have y_0 := HVd.out.cell 0 rfl
          have y_1 := HVd.out.cell 1 rfl
          have y_2 := HVd.out.cell 2 rfl
          have y_3 := HVd.out.cell 3 rfl
          have y_4 := HVd.out.cell 4 rfl
          have y_f := fun j => HVd.out.frozen j
          clear HSd HVd HnV
          go_upto_region 14 with fail
          clear s_0 s_1 s_2 s_3 s_4 s_5 s_6 s_7 s_8 s_9 s_10 y_0 y_1 y_2 y_3 y_4 y_f
          generalize (wd.setCell ⟨nV, 4, none⟩ (.int .i64 v)) = we at *
          have y_0 := HVe.out.cell 0 rfl
          have y_1 := HVe.out.cell 1 rfl
          have y_2 := HVe.out.cell 2 rfl
          have y_3 := HVe.out.cell 3 rfl
          have y_4 := HVe.out.cell 4 rfl
          have s_0 : we.cell? ⟨ns, 0, none⟩ = some (.int .i64 v) := HSe.out.fb.cell 0 rfl
          have s_1 : we.cell? ⟨ns, 1, none⟩ = some (.int .i64 dh) := HSe.out.fb.cell 1 rfl
          have s_2 : we.cell? ⟨ns, 2, none⟩ = some (.int .i64 dr) := HSe.out.fb.cell 2 rfl
          have s_3 : we.cell? ⟨ns, 3, none⟩ = some (.int .i64 ds) := HSe.out.fb.cell 3 rfl
          have s_4 : we.cell? ⟨ns, 4, none⟩ = some (.string di) := HSe.out.fb.cell 4 rfl
          have s_5 : we.cell? ⟨ns, 5, none⟩ = some (.int .i64 mh) := HSe.out.fb.cell 5 rfl
          have s_6 : we.cell? ⟨ns, 6, none⟩ = some (.int .i64 mr) := HSe.out.fb.cell 6 rfl
          have s_7 : we.cell? ⟨ns, 7, none⟩ = some (.int .i64 ms) := HSe.out.fb.cell 7 rfl
          have s_8 : we.cell? ⟨ns, 8, none⟩ = some (.string mi) := HSe.out.fb.cell 8 rfl
          have s_9 : we.cell? ⟨ns, 9, none⟩ = some (.bool p) := HSe.out.fb.cell 9 rfl
          have s_10 : we.cell? ⟨ns, 10, none⟩ = some (.slice a o.length c) := HSe.out.fb.cell 10 rfl
          have kA := spec_ask ⟨v, ⟨dh, dr, ds, di⟩, ⟨mh, mr, ms, mi⟩, p, o⟩ ⟨yh, yr, ys, yi, v⟩ a c we HSe.out.yo HSe.out.hz (by simp only; omega)
          have hl2 := askS_len ⟨v, ⟨dh, dr, ds, di⟩, ⟨mh, mr, ms, mi⟩, p, o⟩ ⟨yh, yr, ys, yi, v⟩
          unfold sV sQ tV at kA
          simp only at kA hl2
          generalize (askS ⟨v, ⟨dh, dr, ds, di⟩, ⟨mh, mr, ms, mi⟩, p, o⟩ ⟨yh, yr, ys, yi, v⟩).1 = z2 at kA hl2
          generalize (askS ⟨v, ⟨dh, dr, ds, di⟩, ⟨mh, mr, ms, mi⟩, p, o⟩ ⟨yh, yr, ys, yi, v⟩).2 = c2 at kA
          obtain ⟨zv, ⟨zdh, zdr, zds, zdi⟩, ⟨zmh, zmr, zms, zmi⟩, zp, zo⟩ := z2
          simp only at kA hl2
          go_wp2_with fail
          clear s_0 s_1 s_2 s_3 s_4 s_5 s_6 s_7 s_8 s_9 s_10 y_0 y_1 y_2 y_3 y_4 HVe
          refine kA.mono ?_
          rintro e wf ⟨qa, qc, rfl, HQ, bb⟩
          have HSf : Hid (SSt w wf g B w.heap.size ns ⟨v, ⟨dh, dr, ds, di⟩, ⟨mh, mr, ms, mi⟩, p, o⟩ a c) := HSe.out.below bb
          have HQf : Hid (OwnY wf w.heap.size (.slice qa zo.length qc) zo) := own_less HQ.out HSe.out.fg.size
          obtain ⟨nT, hnT⟩ : ∃ n, wf.heap.size = n := ⟨_, rfl⟩
          obtain ⟨wg, hwg⟩ : ∃ W, wf.alloc (.cells #[.int .i64 zv, .int .i64 zdh, .int .i64 zdr, .int .i64 zds, .string zdi, .int .i64 zmh, .int .i64 zmr, .int .i64 zms, .string zmi, .bool zp, .slice qa zo.length qc] 29) = W := ⟨_, rfl⟩
          have HSg : Hid (SSt w wg g B w.heap.size ns ⟨v, ⟨dh, dr, ds, di⟩, ⟨mh, mr, ms, mi⟩, p, o⟩ a c) := by rw [← hwg]; exact HSf.out.alloc _
          have HTg : Hid (Blk wg nT [.int .i64 zv, .int .i64 zdh, .int .i64 zdr, .int .i64 zds, .string zdi, .int .i64 zmh, .int .i64 zmr, .int .i64 zms, .string zmi, .bool zp, .slice qa zo.length qc] 29) := by rw [← hwg, ← hnT]; exact blk_new _ _ _
          have HQg : Hid (OwnY wg w.heap.size (.slice qa zo.length qc) zo) := by rw [← hwg]; exact own_keep HQf.out (below_one _ _)
          have HP : Hid (SSt w (((((((((((wg.setCell ⟨ns, 0, none⟩ (.int .i64 zv)).setCell ⟨ns, 1, none⟩ (.int .i64 zdh)).setCell ⟨ns, 2, none⟩ (.int .i64 zdr)).setCell ⟨ns, 3, none⟩ (.int .i64 zds)).setCell ⟨ns, 4, none⟩ (.string zdi)).setCell ⟨ns, 5, none⟩ (.int .i64 zmh)).setCell ⟨ns, 6, none⟩ (.int .i64 zmr)).setCell ⟨ns, 7, none⟩ (.int .i64 zms)).setCell ⟨ns, 8, none⟩ (.string zmi)).setCell ⟨ns, 9, none⟩ (.bool zp)).setCell ⟨ns, 10, none⟩ (.slice qa zo.length qc)) g B w.heap.size ns ⟨zv, ⟨zdh, zdr, zds, zdi⟩, ⟨zmh, zmr, zms, zmi⟩, zp, zo⟩ qa qc) := HSg.out.put (z' := ⟨zv, ⟨zdh, zdr, zds, zdi⟩, ⟨zmh, zmr, zms, zmi⟩, zp, zo⟩) HQg.out
          clear kA HQ bb HSf HQf HSe
          have s_0 : wg.cell? ⟨ns, 0, none⟩ = some (.int .i64 v) := HSg.out.fb.cell 0 rfl
          have s_1 : wg.cell? ⟨ns, 1, none⟩ = some (.int .i64 dh) := HSg.out.fb.cell 1 rfl
          have s_2 : wg.cell? ⟨ns, 2, none⟩ = some (.int .i64 dr) := HSg.out.fb.cell 2 rfl
          have s_3 : wg.cell? ⟨ns, 3, none⟩ = some (.int .i64 ds) := HSg.out.fb.cell 3 rfl
          have s_4 : wg.cell? ⟨ns, 4, none⟩ = some (.string di) := HSg.out.fb.cell 4 rfl
          have s_5 : wg.cell? ⟨ns, 5, none⟩ = some (.int .i64 mh) := HSg.out.fb.cell 5 rfl
          have s_6 : wg.cell? ⟨ns, 6, none⟩ = some (.int .i64 mr) := HSg.out.fb.cell 6 rfl
          have s_7 : wg.cell? ⟨ns, 7, none⟩ = some (.int .i64 ms) := HSg.out.fb.cell 7 rfl
          have s_8 : wg.cell? ⟨ns, 8, none⟩ = some (.string mi) := HSg.out.fb.cell 8 rfl
          have s_9 : wg.cell? ⟨ns, 9, none⟩ = some (.bool p) := HSg.out.fb.cell 9 rfl
          have s_10 : wg.cell? ⟨ns, 10, none⟩ = some (.slice a o.length c) := HSg.out.fb.cell 10 rfl
          have s_f := fun j => HSg.out.fb.frozen j
          have t_0 := HTg.out.cell 0 rfl
          have t_1 := HTg.out.cell 1 rfl
          have t_2 := HTg.out.cell 2 rfl
          have t_3 := HTg.out.cell 3 rfl
          have t_4 := HTg.out.cell 4 rfl
          have t_5 := HTg.out.cell 5 rfl
          have t_6 := HTg.out.cell 6 rfl
          have t_7 := HTg.out.cell 7 rfl
          have t_8 := HTg.out.cell 8 rfl
          have t_9 := HTg.out.cell 9 rfl
          have t_10 := HTg.out.cell 10 rfl
          clear HSg HTg HQg
          go_wp2
          clear s_0 s_1 s_2 s_3 s_4 s_5 s_6 s_7 s_8 s_9 s_10 s_f t_0 t_1 t_2 t_3 t_4 t_5 t_6 t_7 t_8 t_9 t_10 hwg hnT
          go_roundw
          case rel =>
            have hZl : zo.length + k' ≤ 20 := by omega
            first | exact ⟨k', ⟨zv, ⟨zdh, zdr, zds, zdi⟩, ⟨zmh, zmr, zms, zmi⟩, zp, zo⟩, qa, qc, rfl, hZl, HP⟩ | exact ⟨k', ⟨zv, ⟨zdh, zdr, zds, zdi⟩, ⟨zmh, zmr, zms, zmi⟩, zp, zo⟩, qa, qc, (by congr 1; omega), hZl, HP⟩
          case measure => simp [intOf] <;> omega
        · clear HnV
          have y_0 := HVd.out.cell 0 rfl
          have y_1 := HVd.out.cell 1 rfl
          have y_2 := HVd.out.cell 2 rfl
          have y_3 := HVd.out.cell 3 rfl
          have y_4 := HVd.out.cell 4 rfl
          have s_0 : wd.cell? ⟨ns, 0, none⟩ = some (.int .i64 v) := HSd.out.fb.cell 0 rfl
          have s_1 : wd.cell? ⟨ns, 1, none⟩ = some (.int .i64 dh) := HSd.out.fb.cell 1 rfl
          have s_2 : wd.cell? ⟨ns, 2, none⟩ = some (.int .i64 dr) := HSd.out.fb.cell 2 rfl
          have s_3 : wd.cell? ⟨ns, 3, none⟩ = some (.int .i64 ds) := HSd.out.fb.cell 3 rfl
          have s_4 : wd.cell? ⟨ns, 4, none⟩ = some (.string di) := HSd.out.fb.cell 4 rfl
          have s_5 : wd.cell? ⟨ns, 5, none⟩ = some (.int .i64 mh) := HSd.out.fb.cell 5 rfl
          have s_6 : wd.cell? ⟨ns, 6, none⟩ = some (.int .i64 mr) := HSd.out.fb.cell 6 rfl
          have s_7 : wd.cell? ⟨ns, 7, none⟩ = some (.int .i64 ms) := HSd.out.fb.cell 7 rfl
          have s_8 : wd.cell? ⟨ns, 8, none⟩ = some (.string mi) := HSd.out.fb.cell 8 rfl
          have s_9 : wd.cell? ⟨ns, 9, none⟩ = some (.bool p) := HSd.out.fb.cell 9 rfl
          have s_10 : wd.cell? ⟨ns, 10, none⟩ = some (.slice a o.length c) := HSd.out.fb.cell 10 rfl
          have kA := spec_ask ⟨v, ⟨dh, dr, ds, di⟩, ⟨mh, mr, ms, mi⟩, p, o⟩ ⟨yh, yr, ys, yi, yv⟩ a c wd HSd.out.yo HSd.out.hz (by simp only; omega)
          have hl2 := askS_len ⟨v, ⟨dh, dr, ds, di⟩, ⟨mh, mr, ms, mi⟩, p, o⟩ ⟨yh, yr, ys, yi, yv⟩
          unfold sV sQ tV at kA
          simp only at kA hl2
          generalize (askS ⟨v, ⟨dh, dr, ds, di⟩, ⟨mh, mr, ms, mi⟩, p, o⟩ ⟨yh, yr, ys, yi, yv⟩).1 = z2 at kA hl2
          generalize (askS ⟨v, ⟨dh, dr, ds, di⟩, ⟨mh, mr, ms, mi⟩, p, o⟩ ⟨yh, yr, ys, yi, yv⟩).2 = c2 at kA
          obtain ⟨zv, ⟨zdh, zdr, zds, zdi⟩, ⟨zmh, zmr, zms, zmi⟩, zp, zo⟩ := z2
          simp only at kA hl2
          go_wp2_with fail
          clear s_0 s_1 s_2 s_3 s_4 s_5 s_6 s_7 s_8 s_9 s_10 y_0 y_1 y_2 y_3 y_4 HVd
          refine kA.mono ?_
          rintro e wf ⟨qa, qc, rfl, HQ, bb⟩
          have HSf : Hid (SSt w wf g B w.heap.size ns ⟨v, ⟨dh, dr, ds, di⟩, ⟨mh, mr, ms, mi⟩, p, o⟩ a c) := HSd.out.below bb
          have HQf : Hid (OwnY wf w.heap.size (.slice qa zo.length qc) zo) := own_less HQ.out HSd.out.fg.size
          obtain ⟨nT, hnT⟩ : ∃ n, wf.heap.size = n := ⟨_, rfl⟩
          obtain ⟨wg, hwg⟩ : ∃ W, wf.alloc (.cells #[.int .i64 zv, .int .i64 zdh, .int .i64 zdr, .int .i64 zds, .string zdi, .int .i64 zmh, .int .i64 zmr, .int .i64 zms, .string zmi, .bool zp, .slice qa zo.length qc] 29) = W := ⟨_, rfl⟩
          have HSg : Hid (SSt w wg g B w.heap.size ns ⟨v, ⟨dh, dr, ds, di⟩, ⟨mh, mr, ms, mi⟩, p, o⟩ a c) := by rw [← hwg]; exact HSf.out.alloc _
          have HTg : Hid (Blk wg nT [.int .i64 zv, .int .i64 zdh, .int .i64 zdr, .int .i64 zds, .string zdi, .int .i64 zmh, .int .i64 zmr, .int .i64 zms, .string zmi, .bool zp, .slice qa zo.length qc] 29) := by rw [← hwg, ← hnT]; exact blk_new _ _ _
          have HQg : Hid (OwnY wg w.heap.size (.slice qa zo.length qc) zo) := by rw [← hwg]; exact own_keep HQf.out (below_one _ _)
          have HP : Hid (SSt w (((((((((((wg.setCell ⟨ns, 0, none⟩ (.int .i64 zv)).setCell ⟨ns, 1, none⟩ (.int .i64 zdh)).setCell ⟨ns, 2, none⟩ (.int .i64 zdr)).setCell ⟨ns, 3, none⟩ (.int .i64 zds)).setCell ⟨ns, 4, none⟩ (.string zdi)).setCell ⟨ns, 5, none⟩ (.int .i64 zmh)).setCell ⟨ns, 6, none⟩ (.int .i64 zmr)).setCell ⟨ns, 7, none⟩ (.int .i64 zms)).setCell ⟨ns, 8, none⟩ (.string zmi)).setCell ⟨ns, 9, none⟩ (.bool zp)).setCell ⟨ns, 10, none⟩ (.slice qa zo.length qc)) g B w.heap.size ns ⟨zv, ⟨zdh, zdr, zds, zdi⟩, ⟨zmh, zmr, zms, zmi⟩, zp, zo⟩ qa qc) := HSg.out.put (z' := ⟨zv, ⟨zdh, zdr, zds, zdi⟩, ⟨zmh, zmr, zms, zmi⟩, zp, zo⟩) HQg.out
          clear kA HQ bb HSf HQf HSd
          have s_0 : wg.cell? ⟨ns, 0, none⟩ = some (.int .i64 v) := HSg.out.fb.cell 0 rfl
          have s_1 : wg.cell? ⟨ns, 1, none⟩ = some (.int .i64 dh) := HSg.out.fb.cell 1 rfl
          have s_2 : wg.cell? ⟨ns, 2, none⟩ = some (.int .i64 dr) := HSg.out.fb.cell 2 rfl
          have s_3 : wg.cell? ⟨ns, 3, none⟩ = some (.int .i64 ds) := HSg.out.fb.cell 3 rfl
          have s_4 : wg.cell? ⟨ns, 4, none⟩ = some (.string di) := HSg.out.fb.cell 4 rfl
          have s_5 : wg.cell? ⟨ns, 5, none⟩ = some (.int .i64 mh) := HSg.out.fb.cell 5 rfl
          have s_6 : wg.cell? ⟨ns, 6, none⟩ = some (.int .i64 mr) := HSg.out.fb.cell 6 rfl
          have s_7 : wg.cell? ⟨ns, 7, none⟩ = some (.int .i64 ms) := HSg.out.fb.cell 7 rfl
          have s_8 : wg.cell? ⟨ns, 8, none⟩ = some (.string mi) := HSg.out.fb.cell 8 rfl
          have s_9 : wg.cell? ⟨ns, 9, none⟩ = some (.bool p) := HSg.out.fb.cell 9 rfl
          have s_10 : wg.cell? ⟨ns, 10, none⟩ = some (.slice a o.length c) := HSg.out.fb.cell 10 rfl
          have s_f := fun j => HSg.out.fb.frozen j
          have t_0 := HTg.out.cell 0 rfl
          have t_1 := HTg.out.cell 1 rfl
          have t_2 := HTg.out.cell 2 rfl
          have t_3 := HTg.out.cell 3 rfl
          have t_4 := HTg.out.cell 4 rfl
          have t_5 := HTg.out.cell 5 rfl
          have t_6 := HTg.out.cell 6 rfl
          have t_7 := HTg.out.cell 7 rfl
          have t_8 := HTg.out.cell 8 rfl
          have t_9 := HTg.out.cell 9 rfl
          have t_10 := HTg.out.cell 10 rfl
          clear HSg HTg HQg
          go_wp2
          clear s_0 s_1 s_2 s_3 s_4 s_5 s_6 s_7 s_8 s_9 s_10 s_f t_0 t_1 t_2 t_3 t_4 t_5 t_6 t_7 t_8 t_9 t_10 hwg hnT
          go_roundw
          case rel =>
            have hZl : zo.length + k' ≤ 20 := by omega
            first | exact ⟨k', ⟨zv, ⟨zdh, zdr, zds, zdi⟩, ⟨zmh, zmr, zms, zmi⟩, zp, zo⟩, qa, qc, rfl, hZl, HP⟩ | exact ⟨k', ⟨zv, ⟨zdh, zdr, zds, zdi⟩, ⟨zmh, zmr, zms, zmi⟩, zp, zo⟩, qa, qc, (by congr 1; omega), hZl, HP⟩
          case measure => simp [intOf] <;> omega
      · skip
        go_wp2_with fail
        refine (vote_d g B _ HSa.out.fd HSa.out.hB).mono ?_
        rintro e wb ⟨q, rfl, _, HDb, HGb⟩
        have HSb : Hid (SSt w wb g B w.heap.size ns ⟨v, ⟨dh, dr, ds, di⟩, ⟨mh, mr, ms, mi⟩, p, o⟩ a c) := HSa.out.call HDb.out HGb.out
        clear HSa HDb HGb
        obtain ⟨yh, yr, ys, yi, yv⟩ := q
        unfold tV
        simp only
        obtain ⟨nV, hnV⟩ : ∃ n, wb.heap.size = n := ⟨_, rfl⟩
        obtain ⟨wc, hwc⟩ : ∃ W, wb.alloc (.cells #[.int .i64 yh, .int .i64 yr, .int .i64 ys, .string yi, .int .i64 yv] 31) = W := ⟨_, rfl⟩
        have HSc : Hid (SSt w wc g B w.heap.size ns ⟨v, ⟨dh, dr, ds, di⟩, ⟨mh, mr, ms, mi⟩, p, o⟩ a c) := by rw [← hwc]; exact HSb.out.alloc _
        have HVc : Hid (Blk wc nV [.int .i64 yh, .int .i64 yr, .int .i64 ys, .string yi, .int .i64 yv] 31) := by rw [← hwc, ← hnV]; exact blk_new _ _ _
        have HnV : Hid (w.heap.size ≤ nV ∧ nV ≠ ns ∧ nV ≠ w.heap.size ∧ nV ≠ g ∧ (Value.slice a o.length c).ownBlock ≠ some nV) := by
          have h1 := HSb.out.fb.lt; have h2 := HSb.out.fz.lt; have h3 := HSb.out.fg.size; have h4 := HSb.out.fl
          exact ⟨by omega, by omega, by omega, by omega, HSb.out.old (by omega)⟩
        clear HSb
        go_wp2_with fail
        clear hwc hnV
        refine (once_d g B 8 _ HSc.out.fd).mono ?_
        rintro e wd ⟨t, rfl, HDd, HGd⟩
        have HSd : Hid (SSt w wd g B w.heap.size ns ⟨v, ⟨dh, dr, ds, di⟩, ⟨mh, mr, ms, mi⟩, p, o⟩ a c) := HSc.out.call HDd.out HGd.out
        have HVd : Hid (Blk wd nV [.int .i64 yh, .int .i64 yr, .int .i64 ys, .string yi, .int .i64 yv] 31) := HVc.out.grown HGd.out (fun e => by injection e with e; exact HnV.out.2.2.2.1 e.symm)
        clear HSc HVc HDd HGd
        rcases t with _ | _
        · have HSe : Hid (SSt w (wd.setCell ⟨nV, 4, none⟩ (.int .i64 v)) g B w.heap.size ns ⟨v, ⟨dh, dr, ds, di⟩, ⟨mh, mr, ms, mi⟩, p, o⟩ a c) := HSd.out.aside 4 _ HnV.out.2.2.2.2 HnV.out.2.1 HnV.out.2.2.1 HnV.out.1
          have HVe : Hid (Blk (wd.setCell ⟨nV, 4, none⟩ (.int .i64 v)) nV [.int .i64 yh, .int .i64 yr, .int .i64 ys, .string yi, .int .i64 v] 31) := HVd.out.set 4 (.int .i64 v)
          have s_0 : wd.cell? ⟨ns, 0, none⟩ = some (.int .i64 v) := HSd.out.fb.cell 0 rfl
          have s_1 : wd.cell? ⟨ns, 1, none⟩ = some (.int .i64 dh) := HSd.out.fb.cell 1 rfl
          have s_2 : wd.cell? ⟨ns, 2, none⟩ = some (.int .i64 dr) := HSd.out.fb.cell 2 rfl
          have s_3 : wd.cell? ⟨ns, 3, none⟩ = some (.int .i64 ds) := HSd.out.fb.cell 3 rfl
          have s_4 : wd.cell? ⟨ns, 4, none⟩ = some (.string di) := HSd.out.fb.cell 4 rfl
          have s_5 : wd.cell? ⟨ns, 5, none⟩ = some (.int .i64 mh) := HSd.out.fb.cell 5 rfl
          have s_6 : wd.cell? ⟨ns, 6, none⟩ = some (.int .i64 mr) := HSd.out.fb.cell 6 rfl
          have s_7 : wd.cell? ⟨ns, 7, none⟩ = some (.int .i64 ms) := HSd.out.fb.cell 7 rfl
          have s_8 : wd.cell? ⟨ns, 8, none⟩ = some (.string mi) := HSd.out.fb.cell 8 rfl
          have s_9 : wd.cell? ⟨ns, 9, none⟩ = some (.bool p) := HSd.out.fb.cell 9 rfl
          have s_10 : wd.cell? ⟨ns, 10, none⟩ = some (.slice a o.length c) := HSd.out.fb.cell 10 rfl
          have y_0 := HVd.out.cell 0 rfl
          have y_1 := HVd.out.cell 1 rfl
          have y_2 := HVd.out.cell 2 rfl
          have y_3 := HVd.out.cell 3 rfl
          have y_4 := HVd.out.cell 4 rfl
          have y_f := fun j => HVd.out.frozen j
          clear HSd HVd HnV
          go_upto_region 14 with fail
          clear s_0 s_1 s_2 s_3 s_4 s_5 s_6 s_7 s_8 s_9 s_10 y_0 y_1 y_2 y_3 y_4 y_f
          generalize (wd.setCell ⟨nV, 4, none⟩ (.int .i64 v)) = we at *
          have y_0 := HVe.out.cell 0 rfl
          have y_1 := HVe.out.cell 1 rfl
          have y_2 := HVe.out.cell 2 rfl
          have y_3 := HVe.out.cell 3 rfl
          have y_4 := HVe.out.cell 4 rfl
          have s_0 : we.cell? ⟨ns, 0, none⟩ = some (.int .i64 v) := HSe.out.fb.cell 0 rfl
          have s_1 : we.cell? ⟨ns, 1, none⟩ = some (.int .i64 dh) := HSe.out.fb.cell 1 rfl
          have s_2 : we.cell? ⟨ns, 2, none⟩ = some (.int .i64 dr) := HSe.out.fb.cell 2 rfl
          have s_3 : we.cell? ⟨ns, 3, none⟩ = some (.int .i64 ds) := HSe.out.fb.cell 3 rfl
          have s_4 : we.cell? ⟨ns, 4, none⟩ = some (.string di) := HSe.out.fb.cell 4 rfl
          have s_5 : we.cell? ⟨ns, 5, none⟩ = some (.int .i64 mh) := HSe.out.fb.cell 5 rfl
          have s_6 : we.cell? ⟨ns, 6, none⟩ = some (.int .i64 mr) := HSe.out.fb.cell 6 rfl
          have s_7 : we.cell? ⟨ns, 7, none⟩ = some (.int .i64 ms) := HSe.out.fb.cell 7 rfl
          have s_8 : we.cell? ⟨ns, 8, none⟩ = some (.string mi) := HSe.out.fb.cell 8 rfl
          have s_9 : we.cell? ⟨ns, 9, none⟩ = some (.bool p) := HSe.out.fb.cell 9 rfl
          have s_10 : we.cell? ⟨ns, 10, none⟩ = some (.slice a o.length c) := HSe.out.fb.cell 10 rfl
          have kA := spec_ask ⟨v, ⟨dh, dr, ds, di⟩, ⟨mh, mr, ms, mi⟩, p, o⟩ ⟨yh, yr, ys, yi, v⟩ a c we HSe.out.yo HSe.out.hz (by simp only; omega)
          have hl2 := askS_len ⟨v, ⟨dh, dr, ds, di⟩, ⟨mh, mr, ms, mi⟩, p, o⟩ ⟨yh, yr, ys, yi, v⟩
          unfold sV sQ tV at kA
          simp only at kA hl2
          generalize (askS ⟨v, ⟨dh, dr, ds, di⟩, ⟨mh, mr, ms, mi⟩, p, o⟩ ⟨yh, yr, ys, yi, v⟩).1 = z2 at kA hl2
          generalize (askS ⟨v, ⟨dh, dr, ds, di⟩, ⟨mh, mr, ms, mi⟩, p, o⟩ ⟨yh, yr, ys, yi, v⟩).2 = c2 at kA
          obtain ⟨zv, ⟨zdh, zdr, zds, zdi⟩, ⟨zmh, zmr, zms, zmi⟩, zp, zo⟩ := z2
          simp only at kA hl2
          go_wp2_with fail
          clear s_0 s_1 s_2 s_3 s_4 s_5 s_6 s_7 s_8 s_9 s_10 y_0 y_1 y_2 y_3 y_4 HVe
          refine kA.mono ?_
          rintro e wf ⟨qa, qc, rfl, HQ, bb⟩
          have HSf : Hid (SSt w wf g B w.heap.size ns ⟨v, ⟨dh, dr, ds, di⟩, ⟨mh, mr, ms, mi⟩, p, o⟩ a c) := HSe.out.below bb
          have HQf : Hid (OwnY wf w.heap.size (.slice qa zo.length qc) zo) := own_less HQ.out HSe.out.fg.size
          obtain ⟨nT, hnT⟩ : ∃ n, wf.heap.size = n := ⟨_, rfl⟩
          obtain ⟨wg, hwg⟩ : ∃ W, wf.alloc (.cells #[.int .i64 zv, .int .i64 zdh, .int .i64 zdr, .int .i64 zds, .string zdi, .int .i64 zmh, .int .i64 zmr, .int .i64 zms, .string zmi, .bool zp, .slice qa zo.length qc] 29) = W := ⟨_, rfl⟩
          have HSg : Hid (SSt w wg g B w.heap.size ns ⟨v, ⟨dh, dr, ds, di⟩, ⟨mh, mr, ms, mi⟩, p, o⟩ a c) := by rw [← hwg]; exact HSf.out.alloc _
          have HTg : Hid (Blk wg nT [.int .i64 zv, .int .i64 zdh, .int .i64 zdr, .int .i64 zds, .string zdi, .int .i64 zmh, .int .i64 zmr, .int .i64 zms, .string zmi, .bool zp, .slice qa zo.length qc] 29) := by rw [← hwg, ← hnT]; exact blk_new _ _ _
          have HQg : Hid (OwnY wg w.heap.size (.slice qa zo.length qc) zo) := by rw [← hwg]; exact own_keep HQf.out (below_one _ _)
          have HP : Hid (SSt w (((((((((((wg.setCell ⟨ns, 0, none⟩ (.int .i64 zv)).setCell ⟨ns, 1, none⟩ (.int .i64 zdh)).setCell ⟨ns, 2, none⟩ (.int .i64 zdr)).setCell ⟨ns, 3, none⟩ (.int .i64 zds)).setCell ⟨ns, 4, none⟩ (.string zdi)).setCell ⟨ns, 5, none⟩ (.int .i64 zmh)).setCell ⟨ns, 6, none⟩ (.int .i64 zmr)).setCell ⟨ns, 7, none⟩ (.int .i64 zms)).setCell ⟨ns, 8, none⟩ (.string zmi)).setCell ⟨ns, 9, none⟩ (.bool zp)).setCell ⟨ns, 10, none⟩ (.slice qa zo.length qc)) g B w.heap.size ns ⟨zv, ⟨zdh, zdr, zds, zdi⟩, ⟨zmh, zmr, zms, zmi⟩, zp, zo⟩ qa qc) := HSg.out.put (z' := ⟨zv, ⟨zdh, zdr, zds, zdi⟩, ⟨zmh, zmr, zms, zmi⟩, zp, zo⟩) HQg.out
          clear kA HQ bb HSf HQf HSe
          have s_0 : wg.cell? ⟨ns, 0, none⟩ = some (.int .i64 v) := HSg.out.fb.cell 0 rfl
          have s_1 : wg.cell? ⟨ns, 1, none⟩ = some (.int .i64 dh) := HSg.out.fb.cell 1 rfl
          have s_2 : wg.cell? ⟨ns, 2, none⟩ = some (.int .i64 dr) := HSg.out.fb.cell 2 rfl
          have s_3 : wg.cell? ⟨ns, 3, none⟩ = some (.int .i64 ds) := HSg.out.fb.cell 3 rfl
          have s_4 : wg.cell? ⟨ns, 4, none⟩ = some (.string di) := HSg.out.fb.cell 4 rfl
          have s_5 : wg.cell? ⟨ns, 5, none⟩ = some (.int .i64 mh) := HSg.out.fb.cell 5 rfl
          have s_6 : wg.cell? ⟨ns, 6, none⟩ = some (.int .i64 mr) := HSg.out.fb.cell 6 rfl
          have s_7 : wg.cell? ⟨ns, 7, none⟩ = some (.int .i64 ms) := HSg.out.fb.cell 7 rfl
          have s_8 : wg.cell? ⟨ns, 8, none⟩ = some (.string mi) := HSg.out.fb.cell 8 rfl
          have s_9 : wg.cell? ⟨ns, 9, none⟩ = some (.bool p) := HSg.out.fb.cell 9 rfl
          have s_10 : wg.cell? ⟨ns, 10, none⟩ = some (.slice a o.length c) := HSg.out.fb.cell 10 rfl
          have s_f := fun j => HSg.out.fb.frozen j
          have t_0 := HTg.out.cell 0 rfl
          have t_1 := HTg.out.cell 1 rfl
          have t_2 := HTg.out.cell 2 rfl
          have t_3 := HTg.out.cell 3 rfl
          have t_4 := HTg.out.cell 4 rfl
          have t_5 := HTg.out.cell 5 rfl
          have t_6 := HTg.out.cell 6 rfl
          have t_7 := HTg.out.cell 7 rfl
          have t_8 := HTg.out.cell 8 rfl
          have t_9 := HTg.out.cell 9 rfl
          have t_10 := HTg.out.cell 10 rfl
          clear HSg HTg HQg
          go_wp2
          clear s_0 s_1 s_2 s_3 s_4 s_5 s_6 s_7 s_8 s_9 s_10 s_f t_0 t_1 t_2 t_3 t_4 t_5 t_6 t_7 t_8 t_9 t_10 hwg hnT
          go_roundw
          case rel =>
            have hZl : zo.length + k' ≤ 20 := by omega
            first | exact ⟨k', ⟨zv, ⟨zdh, zdr, zds, zdi⟩, ⟨zmh, zmr, zms, zmi⟩, zp, zo⟩, qa, qc, rfl, hZl, HP⟩ | exact ⟨k', ⟨zv, ⟨zdh, zdr, zds, zdi⟩, ⟨zmh, zmr, zms, zmi⟩, zp, zo⟩, qa, qc, (by congr 1; omega), hZl, HP⟩
          case measure => simp [intOf] <;> omega
        · clear HnV
          have y_0 := HVd.out.cell 0 rfl
          have y_1 := HVd.out.cell 1 rfl
          have y_2 := HVd.out.cell 2 rfl
          have y_3 := HVd.out.cell 3 rfl
          have y_4 := HVd.out.cell 4 rfl
          have s_0 : wd.cell? ⟨ns, 0, none⟩ = some (.int .i64 v) := HSd.out.fb.cell 0 rfl
          have s_1 : wd.cell? ⟨ns, 1, none⟩ = some (.int .i64 dh) := HSd.out.fb.cell 1 rfl
          have s_2 : wd.cell? ⟨ns, 2, none⟩ = some (.int .i64 dr) := HSd.out.fb.cell 2 rfl
          have s_3 : wd.cell? ⟨ns, 3, none⟩ = some (.int .i64 ds) := HSd.out.fb.cell 3 rfl
          have s_4 : wd.cell? ⟨ns, 4, none⟩ = some (.string di) := HSd.out.fb.cell 4 rfl
          have s_5 : wd.cell? ⟨ns, 5, none⟩ = some (.int .i64 mh) := HSd.out.fb.cell 5 rfl
          have s_6 : wd.cell? ⟨ns, 6, none⟩ = some (.int .i64 mr) := HSd.out.fb.cell 6 rfl
          have s_7 : wd.cell? ⟨ns, 7, none⟩ = some (.int .i64 ms) := HSd.out.fb.cell 7 rfl
          have s_8 : wd.cell? ⟨ns, 8, none⟩ = some (.string mi) := HSd.out.fb.cell 8 rfl
          have s_9 : wd.cell? ⟨ns, 9, none⟩ = some (.bool p) := HSd.out.fb.cell 9 rfl
          have s_10 : wd.cell? ⟨ns, 10, none⟩ = some (.slice a o.length c) := HSd.out.fb.cell 10 rfl
          have kA := spec_ask ⟨v, ⟨dh, dr, ds, di⟩, ⟨mh, mr, ms, mi⟩, p, o⟩ ⟨yh, yr, ys, yi, yv⟩ a c wd HSd.out.yo HSd.out.hz (by simp only; omega)
          have hl2 := askS_len ⟨v, ⟨dh, dr, ds, di⟩, ⟨mh, mr, ms, mi⟩, p, o⟩ ⟨yh, yr, ys, yi, yv⟩
          unfold sV sQ tV at kA
          simp only at kA hl2
          generalize (askS ⟨v, ⟨dh, dr, ds, di⟩, ⟨mh, mr, ms, mi⟩, p, o⟩ ⟨yh, yr, ys, yi, yv⟩).1 = z2 at kA hl2
          generalize (askS ⟨v, ⟨dh, dr, ds, di⟩, ⟨mh, mr, ms, mi⟩, p, o⟩ ⟨yh, yr, ys, yi, yv⟩).2 = c2 at kA
          obtain ⟨zv, ⟨zdh, zdr, zds, zdi⟩, ⟨zmh, zmr, zms, zmi⟩, zp, zo⟩ := z2
          simp only at kA hl2
          go_wp2_with fail
          clear s_0 s_1 s_2 s_3 s_4 s_5 s_6 s_7 s_8 s_9 s_10 y_0 y_1 y_2 y_3 y_4 HVd
          refine kA.mono ?_
          rintro e wf ⟨qa, qc, rfl, HQ, bb⟩
          have HSf : Hid (SSt w wf g B w.heap.size ns ⟨v, ⟨dh, dr, ds, di⟩, ⟨mh, mr, ms, mi⟩, p, o⟩ a c) := HSd.out.below bb
          have HQf : Hid (OwnY wf w.heap.size (.slice qa zo.length qc) zo) := own_less HQ.out HSd.out.fg.size
          obtain ⟨nT, hnT⟩ : ∃ n, wf.heap.size = n := ⟨_, rfl⟩
          obtain ⟨wg, hwg⟩ : ∃ W, wf.alloc (.cells #[.int .i64 zv, .int .i64 zdh, .int .i64 zdr, .int .i64 zds, .string zdi, .int .i64 zmh, .int .i64 zmr, .int .i64 zms, .string zmi, .bool zp, .slice qa zo.length qc] 29) = W := ⟨_, rfl⟩
          have HSg : Hid (SSt w wg g B w.heap.size ns ⟨v, ⟨dh, dr, ds, di⟩, ⟨mh, mr, ms, mi⟩, p, o⟩ a c) := by rw [← hwg]; exact HSf.out.alloc _
          have HTg : Hid (Blk wg nT [.int .i64 zv, .int .i64 zdh, .int .i64 zdr, .int .i64 zds, .string zdi, .int .i64 zmh, .int .i64 zmr, .int .i64 zms, .string zmi, .bool zp, .slice qa zo.length qc] 29) := by rw [← hwg, ← hnT]; exact blk_new _ _ _
          have HQg : Hid (OwnY wg w.heap.size (.slice qa zo.length qc) zo) := by rw [← hwg]; exact own_keep HQf.out (below_one _ _)
          have HP : Hid (SSt w (((((((((((wg.setCell ⟨ns, 0, none⟩ (.int .i64 zv)).setCell ⟨ns, 1, none⟩ (.int .i64 zdh)).setCell ⟨ns, 2, none⟩ (.int .i64 zdr)).setCell ⟨ns, 3, none⟩ (.int .i64 zds)).setCell ⟨ns, 4, none⟩ (.string zdi)).setCell ⟨ns, 5, none⟩ (.int .i64 zmh)).setCell ⟨ns, 6, none⟩ (.int .i64 zmr)).setCell ⟨ns, 7, none⟩ (.int .i64 zms)).setCell ⟨ns, 8, none⟩ (.string zmi)).setCell ⟨ns, 9, none⟩ (.bool zp)).setCell ⟨ns, 10, none⟩ (.slice qa zo.length qc)) g B w.heap.size ns ⟨zv, ⟨zdh, zdr, zds, zdi⟩, ⟨zmh, zmr, zms, zmi⟩, zp, zo⟩ qa qc) := HSg.out.put (z' := ⟨zv, ⟨zdh, zdr, zds, zdi⟩, ⟨zmh, zmr, zms, zmi⟩, zp, zo⟩) HQg.out
          clear kA HQ bb HSf HQf HSd
          have s_0 : wg.cell? ⟨ns, 0, none⟩ = some (.int .i64 v) := HSg.out.fb.cell 0 rfl
          have s_1 : wg.cell? ⟨ns, 1, none⟩ = some (.int .i64 dh) := HSg.out.fb.cell 1 rfl
          have s_2 : wg.cell? ⟨ns, 2, none⟩ = some (.int .i64 dr) := HSg.out.fb.cell 2 rfl
          have s_3 : wg.cell? ⟨ns, 3, none⟩ = some (.int .i64 ds) := HSg.out.fb.cell 3 rfl
          have s_4 : wg.cell? ⟨ns, 4, none⟩ = some (.string di) := HSg.out.fb.cell 4 rfl
          have s_5 : wg.cell? ⟨ns, 5, none⟩ = some (.int .i64 mh) := HSg.out.fb.cell 5 rfl
          have s_6 : wg.cell? ⟨ns, 6, none⟩ = some (.int .i64 mr) := HSg.out.fb.cell 6 rfl
          have s_7 : wg.cell? ⟨ns, 7, none⟩ = some (.int .i64 ms) := HSg.out.fb.cell 7 rfl
          have s_8 : wg.cell? ⟨ns, 8, none⟩ = some (.string mi) := HSg.out.fb.cell 8 rfl
          have s_9 : wg.cell? ⟨ns, 9, none⟩ = some (.bool p) := HSg.out.fb.cell 9 rfl
          have s_10 : wg.cell? ⟨ns, 10, none⟩ = some (.slice a o.length c) := HSg.out.fb.cell 10 rfl
          have s_f := fun j => HSg.out.fb.frozen j
          have t_0 := HTg.out.cell 0 rfl
          have t_1 := HTg.out.cell 1 rfl
          have t_2 := HTg.out.cell 2 rfl
          have t_3 := HTg.out.cell 3 rfl
          have t_4 := HTg.out.cell 4 rfl
          have t_5 := HTg.out.cell 5 rfl
          have t_6 := HTg.out.cell 6 rfl
          have t_7 := HTg.out.cell 7 rfl
          have t_8 := HTg.out.cell 8 rfl
          have t_9 := HTg.out.cell 9 rfl
          have t_10 := HTg.out.cell 10 rfl
          clear HSg HTg HQg
          go_wp2
          clear s_0 s_1 s_2 s_3 s_4 s_5 s_6 s_7 s_8 s_9 s_10 s_f t_0 t_1 t_2 t_3 t_4 t_5 t_6 t_7 t_8 t_9 t_10 hwg hnT
          go_roundw
          case rel =>
            have hZl : zo.length + k' ≤ 20 := by omega
            first | exact ⟨k', ⟨zv, ⟨zdh, zdr, zds, zdi⟩, ⟨zmh, zmr, zms, zmi⟩, zp, zo⟩, qa, qc, rfl, hZl, HP⟩ | exact ⟨k', ⟨zv, ⟨zdh, zdr, zds, zdi⟩, ⟨zmh, zmr, zms, zmi⟩, zp, zo⟩, qa, qc, (by congr 1; omega), hZl, HP⟩
          case measure => simp [intOf] <;> omega
      · skip
        have s_0 : wa.cell? ⟨ns, 0, none⟩ = some (.int .i64 v) := HSa.out.fb.cell 0 rfl
        have s_1 : wa.cell? ⟨ns, 1, none⟩ = some (.int .i64 dh) := HSa.out.fb.cell 1 rfl
        have s_2 : wa.cell? ⟨ns, 2, none⟩ = some (.int .i64 dr) := HSa.out.fb.cell 2 rfl
        have s_3 : wa.cell? ⟨ns, 3, none⟩ = some (.int .i64 ds) := HSa.out.fb.cell 3 rfl
        have s_4 : wa.cell? ⟨ns, 4, none⟩ = some (.string di) := HSa.out.fb.cell 4 rfl
        have s_5 : wa.cell? ⟨ns, 5, none⟩ = some (.int .i64 mh) := HSa.out.fb.cell 5 rfl
        have s_6 : wa.cell? ⟨ns, 6, none⟩ = some (.int .i64 mr) := HSa.out.fb.cell 6 rfl
        have s_7 : wa.cell? ⟨ns, 7, none⟩ = some (.int .i64 ms) := HSa.out.fb.cell 7 rfl
        have s_8 : wa.cell? ⟨ns, 8, none⟩ = some (.string mi) := HSa.out.fb.cell 8 rfl
        have s_9 : wa.cell? ⟨ns, 9, none⟩ = some (.bool p) := HSa.out.fb.cell 9 rfl
        have s_10 : wa.cell? ⟨ns, 10, none⟩ = some (.slice a o.length c) := HSa.out.fb.cell 10 rfl
        have kA := spec_sync ⟨v, ⟨dh, dr, ds, di⟩, ⟨mh, mr, ms, mi⟩, p, o⟩  a c wa HSa.out.yo HSa.out.hz (by simp only; omega)
        have hl2 := synS_len2 ⟨v, ⟨dh, dr, ds, di⟩, ⟨mh, mr, ms, mi⟩, p, o⟩
        unfold sV sQ at kA
        simp only at kA hl2
        generalize (synS ⟨v, ⟨dh, dr, ds, di⟩, ⟨mh, mr, ms, mi⟩, p, o⟩).1 = z2 at kA hl2
        generalize (synS ⟨v, ⟨dh, dr, ds, di⟩, ⟨mh, mr, ms, mi⟩, p, o⟩).2 = c2 at kA
        obtain ⟨zv, ⟨zdh, zdr, zds, zdi⟩, ⟨zmh, zmr, zms, zmi⟩, zp, zo⟩ := z2
        simp only at kA hl2
        go_wp2_with fail
        clear s_0 s_1 s_2 s_3 s_4 s_5 s_6 s_7 s_8 s_9 s_10
        refine kA.mono ?_
        rintro e wf ⟨qa, qc, rfl, HQ, bb⟩
        have HSf : Hid (SSt w wf g B w.heap.size ns ⟨v, ⟨dh, dr, ds, di⟩, ⟨mh, mr, ms, mi⟩, p, o⟩ a c) := HSa.out.below bb
        have HQf : Hid (OwnY wf w.heap.size (.slice qa zo.length qc) zo) := own_less HQ.out HSa.out.fg.size
        obtain ⟨nT, hnT⟩ : ∃ n, wf.heap.size = n := ⟨_, rfl⟩
        obtain ⟨wg, hwg⟩ : ∃ W, wf.alloc (.cells #[.int .i64 zv, .int .i64 zdh, .int .i64 zdr, .int .i64 zds, .string zdi, .int .i64 zmh, .int .i64 zmr, .int .i64 zms, .string zmi, .bool zp, .slice qa zo.length qc] 29) = W := ⟨_, rfl⟩
        have HSg : Hid (SSt w wg g B w.heap.size ns ⟨v, ⟨dh, dr, ds, di⟩, ⟨mh, mr, ms, mi⟩, p, o⟩ a c) := by rw [← hwg]; exact HSf.out.alloc _
        have HTg : Hid (Blk wg nT [.int .i64 zv, .int .i64 zdh, .int .i64 zdr, .int .i64 zds, .string zdi, .int .i64 zmh, .int .i64 zmr, .int .i64 zms, .string zmi, .bool zp, .slice qa zo.length qc] 29) := by rw [← hwg, ← hnT]; exact blk_new _ _ _
        have HQg : Hid (OwnY wg w.heap.size (.slice qa zo.length qc) zo) := by rw [← hwg]; exact own_keep HQf.out (below_one _ _)
        have HP : Hid (SSt w (((((((((((wg.setCell ⟨ns, 0, none⟩ (.int .i64 zv)).setCell ⟨ns, 1, none⟩ (.int .i64 zdh)).setCell ⟨ns, 2, none⟩ (.int .i64 zdr)).setCell ⟨ns, 3, none⟩ (.int .i64 zds)).setCell ⟨ns, 4, none⟩ (.string zdi)).setCell ⟨ns, 5, none⟩ (.int .i64 zmh)).setCell ⟨ns, 6, none⟩ (.int .i64 zmr)).setCell ⟨ns, 7, none⟩ (.int .i64 zms)).setCell ⟨ns, 8, none⟩ (.string zmi)).setCell ⟨ns, 9, none⟩ (.bool zp)).setCell ⟨ns, 10, none⟩ (.slice qa zo.length qc)) g B w.heap.size ns ⟨zv, ⟨zdh, zdr, zds, zdi⟩, ⟨zmh, zmr, zms, zmi⟩, zp, zo⟩ qa qc) := HSg.out.put (z' := ⟨zv, ⟨zdh, zdr, zds, zdi⟩, ⟨zmh, zmr, zms, zmi⟩, zp, zo⟩) HQg.out
        clear kA HQ bb HSf HQf HSa
        have s_0 : wg.cell? ⟨ns, 0, none⟩ = some (.int .i64 v) := HSg.out.fb.cell 0 rfl
        have s_1 : wg.cell? ⟨ns, 1, none⟩ = some (.int .i64 dh) := HSg.out.fb.cell 1 rfl
        have s_2 : wg.cell? ⟨ns, 2, none⟩ = some (.int .i64 dr) := HSg.out.fb.cell 2 rfl
        have s_3 : wg.cell? ⟨ns, 3, none⟩ = some (.int .i64 ds) := HSg.out.fb.cell 3 rfl
        have s_4 : wg.cell? ⟨ns, 4, none⟩ = some (.string di) := HSg.out.fb.cell 4 rfl
        have s_5 : wg.cell? ⟨ns, 5, none⟩ = some (.int .i64 mh) := HSg.out.fb.cell 5 rfl
        have s_6 : wg.cell? ⟨ns, 6, none⟩ = some (.int .i64 mr) := HSg.out.fb.cell 6 rfl
        have s_7 : wg.cell? ⟨ns, 7, none⟩ = some (.int .i64 ms) := HSg.out.fb.cell 7 rfl
        have s_8 : wg.cell? ⟨ns, 8, none⟩ = some (.string mi) := HSg.out.fb.cell 8 rfl
        have s_9 : wg.cell? ⟨ns, 9, none⟩ = some (.bool p) := HSg.out.fb.cell 9 rfl
        have s_10 : wg.cell? ⟨ns, 10, none⟩ = some (.slice a o.length c) := HSg.out.fb.cell 10 rfl
        have s_f := fun j => HSg.out.fb.frozen j
        have t_0 := HTg.out.cell 0 rfl
        have t_1 := HTg.out.cell 1 rfl
        have t_2 := HTg.out.cell 2 rfl
        have t_3 := HTg.out.cell 3 rfl
        have t_4 := HTg.out.cell 4 rfl
        have t_5 := HTg.out.cell 5 rfl
        have t_6 := HTg.out.cell 6 rfl
        have t_7 := HTg.out.cell 7 rfl
        have t_8 := HTg.out.cell 8 rfl
        have t_9 := HTg.out.cell 9 rfl
        have t_10 := HTg.out.cell 10 rfl
        clear HSg HTg HQg
        go_wp2
        clear s_0 s_1 s_2 s_3 s_4 s_5 s_6 s_7 s_8 s_9 s_10 s_f t_0 t_1 t_2 t_3 t_4 t_5 t_6 t_7 t_8 t_9 t_10 hwg hnT
        go_roundw
        case rel =>
          have hZl : zo.length + k' ≤ 20 := by omega
          first | exact ⟨k', ⟨zv, ⟨zdh, zdr, zds, zdi⟩, ⟨zmh, zmr, zms, zmi⟩, zp, zo⟩, qa, qc, rfl, hZl, HP⟩ | exact ⟨k', ⟨zv, ⟨zdh, zdr, zds, zdi⟩, ⟨zmh, zmr, zms, zmi⟩, zp, zo⟩, qa, qc, (by congr 1; omega), hZl, HP⟩
        case measure => simp [intOf] <;> omega
      · skip
        have s_0 : wa.cell? ⟨ns, 0, none⟩ = some (.int .i64 v) := HSa.out.fb.cell 0 rfl
        have s_1 : wa.cell? ⟨ns, 1, none⟩ = some (.int .i64 dh) := HSa.out.fb.cell 1 rfl
        have s_2 : wa.cell? ⟨ns, 2, none⟩ = some (.int .i64 dr) := HSa.out.fb.cell 2 rfl
        have s_3 : wa.cell? ⟨ns, 3, none⟩ = some (.int .i64 ds) := HSa.out.fb.cell 3 rfl
        have s_4 : wa.cell? ⟨ns, 4, none⟩ = some (.string di) := HSa.out.fb.cell 4 rfl
        have s_5 : wa.cell? ⟨ns, 5, none⟩ = some (.int .i64 mh) := HSa.out.fb.cell 5 rfl
        have s_6 : wa.cell? ⟨ns, 6, none⟩ = some (.int .i64 mr) := HSa.out.fb.cell 6 rfl
        have s_7 : wa.cell? ⟨ns, 7, none⟩ = some (.int .i64 ms) := HSa.out.fb.cell 7 rfl
        have s_8 : wa.cell? ⟨ns, 8, none⟩ = some (.string mi) := HSa.out.fb.cell 8 rfl
        have s_9 : wa.cell? ⟨ns, 9, none⟩ = some (.bool p) := HSa.out.fb.cell 9 rfl
        have s_10 : wa.cell? ⟨ns, 10, none⟩ = some (.slice a o.length c) := HSa.out.fb.cell 10 rfl
        have kA := spec_sync ⟨v, ⟨dh, dr, ds, di⟩, ⟨mh, mr, ms, mi⟩, p, o⟩  a c wa HSa.out.yo HSa.out.hz (by simp only; omega)
        have hl2 := synS_len2 ⟨v, ⟨dh, dr, ds, di⟩, ⟨mh, mr, ms, mi⟩, p, o⟩
        unfold sV sQ at kA
        simp only at kA hl2
        generalize (synS ⟨v, ⟨dh, dr, ds, di⟩, ⟨mh, mr, ms, mi⟩, p, o⟩).1 = z2 at kA hl2
        generalize (synS ⟨v, ⟨dh, dr, ds, di⟩, ⟨mh, mr, ms, mi⟩, p, o⟩).2 = c2 at kA
        obtain ⟨zv, ⟨zdh, zdr, zds, zdi⟩, ⟨zmh, zmr, zms, zmi⟩, zp, zo⟩ := z2
        simp only at kA hl2
        go_wp2_with fail
        clear s_0 s_1 s_2 s_3 s_4 s_5 s_6 s_7 s_8 s_9 s_10
        refine kA.mono ?_
        rintro e wf ⟨qa, qc, rfl, HQ, bb⟩
        have HSf : Hid (SSt w wf g B w.heap.size ns ⟨v, ⟨dh, dr, ds, di⟩, ⟨mh, mr, ms, mi⟩, p, o⟩ a c) := HSa.out.below bb
        have HQf : Hid (OwnY wf w.heap.size (.slice qa zo.length qc) zo) := own_less HQ.out HSa.out.fg.size
        obtain ⟨nT, hnT⟩ : ∃ n, wf.heap.size = n := ⟨_, rfl⟩
        obtain ⟨wg, hwg⟩ : ∃ W, wf.alloc (.cells #[.int .i64 zv, .int .i64 zdh, .int .i64 zdr, .int .i64 zds, .string zdi, .int .i64 zmh, .int .i64 zmr, .int .i64 zms, .string zmi, .bool zp, .slice qa zo.length qc] 29) = W := ⟨_, rfl⟩
        have HSg : Hid (SSt w wg g B w.heap.size ns ⟨v, ⟨dh, dr, ds, di⟩, ⟨mh, mr, ms, mi⟩, p, o⟩ a c) := by rw [← hwg]; exact HSf.out.alloc _
        have HTg : Hid (Blk wg nT [.int .i64 zv, .int .i64 zdh, .int .i64 zdr, .int .i64 zds, .string zdi, .int .i64 zmh, .int .i64 zmr, .int .i64 zms, .string zmi, .bool zp, .slice qa zo.length qc] 29) := by rw [← hwg, ← hnT]; exact blk_new _ _ _
        have HQg : Hid (OwnY wg w.heap.size (.slice qa zo.length qc) zo) := by rw [← hwg]; exact own_keep HQf.out (below_one _ _)
        have HP : Hid (SSt w (((((((((((wg.setCell ⟨ns, 0, none⟩ (.int .i64 zv)).setCell ⟨ns, 1, none⟩ (.int .i64 zdh)).setCell ⟨ns, 2, none⟩ (.int .i64 zdr)).setCell ⟨ns, 3, none⟩ (.int .i64 zds)).setCell ⟨ns, 4, none⟩ (.string zdi)).setCell ⟨ns, 5, none⟩ (.int .i64 zmh)).setCell ⟨ns, 6, none⟩ (.int .i64 zmr)).setCell ⟨ns, 7, none⟩ (.int .i64 zms)).setCell ⟨ns, 8, none⟩ (.string zmi)).setCell ⟨ns, 9, none⟩ (.bool zp)).setCell ⟨ns, 10, none⟩ (.slice qa zo.length qc)) g B w.heap.size ns ⟨zv, ⟨zdh, zdr, zds, zdi⟩, ⟨zmh, zmr, zms, zmi⟩, zp, zo⟩ qa qc) := HSg.out.put (z' := ⟨zv, ⟨zdh, zdr, zds, zdi⟩, ⟨zmh, zmr, zms, zmi⟩, zp, zo⟩) HQg.out
        clear kA HQ bb HSf HQf HSa
        have s_0 : wg.cell? ⟨ns, 0, none⟩ = some (.int .i64 v) := HSg.out.fb.cell 0 rfl
        have s_1 : wg.cell? ⟨ns, 1, none⟩ = some (.int .i64 dh) := HSg.out.fb.cell 1 rfl
        have s_2 : wg.cell? ⟨ns, 2, none⟩ = some (.int .i64 dr) := HSg.out.fb.cell 2 rfl
        have s_3 : wg.cell? ⟨ns, 3, none⟩ = some (.int .i64 ds) := HSg.out.fb.cell 3 rfl
        have s_4 : wg.cell? ⟨ns, 4, none⟩ = some (.string di) := HSg.out.fb.cell 4 rfl
        have s_5 : wg.cell? ⟨ns, 5, none⟩ = some (.int .i64 mh) := HSg.out.fb.cell 5 rfl
        have s_6 : wg.cell? ⟨ns, 6, none⟩ = some (.int .i64 mr) := HSg.out.fb.cell 6 rfl
        have s_7 : wg.cell? ⟨ns, 7, none⟩ = some (.int .i64 ms) := HSg.out.fb.cell 7 rfl
        have s_8 : wg.cell? ⟨ns, 8, none⟩ = some (.string mi) := HSg.out.fb.cell 8 rfl
        have s_9 : wg.cell? ⟨ns, 9, none⟩ = some (.bool p) := HSg.out.fb.cell 9 rfl
        have s_10 : wg.cell? ⟨ns, 10, none⟩ = some (.slice a o.length c) := HSg.out.fb.cell 10 rfl
        have s_f := fun j => HSg.out.fb.frozen j
        have t_0 := HTg.out.cell 0 rfl
        have t_1 := HTg.out.cell 1 rfl
        have t_2 := HTg.out.cell 2 rfl
        have t_3 := HTg.out.cell 3 rfl
        have t_4 := HTg.out.cell 4 rfl
        have t_5 := HTg.out.cell 5 rfl
        have t_6 := HTg.out.cell 6 rfl
        have t_7 := HTg.out.cell 7 rfl
        have t_8 := HTg.out.cell 8 rfl
        have t_9 := HTg.out.cell 9 rfl
        have t_10 := HTg.out.cell 10 rfl
        clear HSg HTg HQg
        go_wp2
        clear s_0 s_1 s_2 s_3 s_4 s_5 s_6 s_7 s_8 s_9 s_10 s_f t_0 t_1 t_2 t_3 t_4 t_5 t_6 t_7 t_8 t_9 t_10 hwg hnT
        go_roundw
        case rel =>
          have hZl : zo.length + k' ≤ 20 := by omega
          first | exact ⟨k', ⟨zv, ⟨zdh, zdr, zds, zdi⟩, ⟨zmh, zmr, zms, zmi⟩, zp, zo⟩, qa, qc, rfl, hZl, HP⟩ | exact ⟨k', ⟨zv, ⟨zdh, zdr, zds, zdi⟩, ⟨zmh, zmr, zms, zmi⟩, zp, zo⟩, qa, qc, (by congr 1; omega), hZl, HP⟩
        case measure => simp [intOf] <;> omega
      · skip
        have s_0 : wa.cell? ⟨ns, 0, none⟩ = some (.int .i64 v) := HSa.out.fb.cell 0 rfl
        have s_1 : wa.cell? ⟨ns, 1, none⟩ = some (.int .i64 dh) := HSa.out.fb.cell 1 rfl
        have s_2 : wa.cell? ⟨ns, 2, none⟩ = some (.int .i64 dr) := HSa.out.fb.cell 2 rfl
        have s_3 : wa.cell? ⟨ns, 3, none⟩ = some (.int .i64 ds) := HSa.out.fb.cell 3 rfl
        have s_4 : wa.cell? ⟨ns, 4, none⟩ = some (.string di) := HSa.out.fb.cell 4 rfl
        have s_5 : wa.cell? ⟨ns, 5, none⟩ = some (.int .i64 mh) := HSa.out.fb.cell 5 rfl
        have s_6 : wa.cell? ⟨ns, 6, none⟩ = some (.int .i64 mr) := HSa.out.fb.cell 6 rfl
        have s_7 : wa.cell? ⟨ns, 7, none⟩ = some (.int .i64 ms) := HSa.out.fb.cell 7 rfl
        have s_8 : wa.cell? ⟨ns, 8, none⟩ = some (.string mi) := HSa.out.fb.cell 8 rfl
        have s_9 : wa.cell? ⟨ns, 9, none⟩ = some (.bool p) := HSa.out.fb.cell 9 rfl
        have s_10 : wa.cell? ⟨ns, 10, none⟩ = some (.slice a o.length c) := HSa.out.fb.cell 10 rfl
        have kA := spec_fall ⟨v, ⟨dh, dr, ds, di⟩, ⟨mh, mr, ms, mi⟩, p, o⟩  a c wa HSa.out.yo HSa.out.hz (by simp only; omega)
        have hl2 := fallS_len2 ⟨v, ⟨dh, dr, ds, di⟩, ⟨mh, mr, ms, mi⟩, p, o⟩
        unfold sV sQ at kA
        simp only at kA hl2
        generalize (fallS ⟨v, ⟨dh, dr, ds, di⟩, ⟨mh, mr, ms, mi⟩, p, o⟩).1 = z2 at kA hl2
        generalize (fallS ⟨v, ⟨dh, dr, ds, di⟩, ⟨mh, mr, ms, mi⟩, p, o⟩).2 = c2 at kA
        obtain ⟨zv, ⟨zdh, zdr, zds, zdi⟩, ⟨zmh, zmr, zms, zmi⟩, zp, zo⟩ := z2
        simp only at kA hl2
        go_wp2_with fail
        clear s_0 s_1 s_2 s_3 s_4 s_5 s_6 s_7 s_8 s_9 s_10
        refine kA.mono ?_
        rintro e wf ⟨qa, qc, rfl, HQ, bb⟩
        have HSf : Hid (SSt w wf g B w.heap.size ns ⟨v, ⟨dh, dr, ds, di⟩, ⟨mh, mr, ms, mi⟩, p, o⟩ a c) := HSa.out.below bb
        have HQf : Hid (OwnY wf w.heap.size (.slice qa zo.length qc) zo) := own_less HQ.out HSa.out.fg.size
        obtain ⟨nT, hnT⟩ : ∃ n, wf.heap.size = n := ⟨_, rfl⟩
        obtain ⟨wg, hwg⟩ : ∃ W, wf.alloc (.cells #[.int .i64 zv, .int .i64 zdh, .int .i64 zdr, .int .i64 zds, .string zdi, .int .i64 zmh, .int .i64 zmr, .int .i64 zms, .string zmi, .bool zp, .slice qa zo.length qc] 29) = W := ⟨_, rfl⟩
        have HSg : Hid (SSt w wg g B w.heap.size ns ⟨v, ⟨dh, dr, ds, di⟩, ⟨mh, mr, ms, mi⟩, p, o⟩ a c) := by rw [← hwg]; exact HSf.out.alloc _
        have HTg : Hid (Blk wg nT [.int .i64 zv, .int .i64 zdh, .int .i64 zdr, .int .i64 zds, .string zdi, .int .i64 zmh, .int .i64 zmr, .int .i64 zms, .string zmi, .bool zp, .slice qa zo.length qc] 29) := by rw [← hwg, ← hnT]; exact blk_new _ _ _
        have HQg : Hid (OwnY wg w.heap.size (.slice qa zo.length qc) zo) := by rw [← hwg]; exact own_keep HQf.out (below_one _ _)
        have HP : Hid (SSt w (((((((((((wg.setCell ⟨ns, 0, none⟩ (.int .i64 zv)).setCell ⟨ns, 1, none⟩ (.int .i64 zdh)).setCell ⟨ns, 2, none⟩ (.int .i64 zdr)).setCell ⟨ns, 3, none⟩ (.int .i64 zds)).setCell ⟨ns, 4, none⟩ (.string zdi)).setCell ⟨ns, 5, none⟩ (.int .i64 zmh)).setCell ⟨ns, 6, none⟩ (.int .i64 zmr)).setCell ⟨ns, 7, none⟩ (.int .i64 zms)).setCell ⟨ns, 8, none⟩ (.string zmi)).setCell ⟨ns, 9, none⟩ (.bool zp)).setCell ⟨ns, 10, none⟩ (.slice qa zo.length qc)) g B w.heap.size ns ⟨zv, ⟨zdh, zdr, zds, zdi⟩, ⟨zmh, zmr, zms, zmi⟩, zp, zo⟩ qa qc) := HSg.out.put (z' := ⟨zv, ⟨zdh, zdr, zds, zdi⟩, ⟨zmh, zmr, zms, zmi⟩, zp, zo⟩) HQg.out
        clear kA HQ bb HSf HQf HSa
        have s_0 : wg.cell? ⟨ns, 0, none⟩ = some (.int .i64 v) := HSg.out.fb.cell 0 rfl
        have s_1 : wg.cell? ⟨ns, 1, none⟩ = some (.int .i64 dh) := HSg.out.fb.cell 1 rfl
        have s_2 : wg.cell? ⟨ns, 2, none⟩ = some (.int .i64 dr) := HSg.out.fb.cell 2 rfl
        have s_3 : wg.cell? ⟨ns, 3, none⟩ = some (.int .i64 ds) := HSg.out.fb.cell 3 rfl
        have s_4 : wg.cell? ⟨ns, 4, none⟩ = some (.string di) := HSg.out.fb.cell 4 rfl
        have s_5 : wg.cell? ⟨ns, 5, none⟩ = some (.int .i64 mh) := HSg.out.fb.cell 5 rfl
        have s_6 : wg.cell? ⟨ns, 6, none⟩ = some (.int .i64 mr) := HSg.out.fb.cell 6 rfl
        have s_7 : wg.cell? ⟨ns, 7, none⟩ = some (.int .i64 ms) := HSg.out.fb.cell 7 rfl
        have s_8 : wg.cell? ⟨ns, 8, none⟩ = some (.string mi) := HSg.out.fb.cell 8 rfl
        have s_9 : wg.cell? ⟨ns, 9, none⟩ = some (.bool p) := HSg.out.fb.cell 9 rfl
        have s_10 : wg.cell? ⟨ns, 10, none⟩ = some (.slice a o.length c) := HSg.out.fb.cell 10 rfl
        have s_f := fun j => HSg.out.fb.frozen j
        have t_0 := HTg.out.cell 0 rfl
        have t_1 := HTg.out.cell 1 rfl
        have t_2 := HTg.out.cell 2 rfl
        have t_3 := HTg.out.cell 3 rfl
        have t_4 := HTg.out.cell 4 rfl
        have t_5 := HTg.out.cell 5 rfl
        have t_6 := HTg.out.cell 6 rfl
        have t_7 := HTg.out.cell 7 rfl
        have t_8 := HTg.out.cell 8 rfl
        have t_9 := HTg.out.cell 9 rfl
        have t_10 := HTg.out.cell 10 rfl
        clear HSg HTg HQg
        go_wp2
        clear s_0 s_1 s_2 s_3 s_4 s_5 s_6 s_7 s_8 s_9 s_10 s_f t_0 t_1 t_2 t_3 t_4 t_5 t_6 t_7 t_8 t_9 t_10 hwg hnT
        go_roundw
        case rel =>
          have hZl : zo.length + k' ≤ 20 := by omega
          first | exact ⟨k', ⟨zv, ⟨zdh, zdr, zds, zdi⟩, ⟨zmh, zmr, zms, zmi⟩, zp, zo⟩, qa, qc, rfl, hZl, HP⟩ | exact ⟨k', ⟨zv, ⟨zdh, zdr, zds, zdi⟩, ⟨zmh, zmr, zms, zmi⟩, zp, zo⟩, qa, qc, (by congr 1; omega), hZl, HP⟩
        case measure => simp [intOf] <;> omega
    · have hltz : ¬ (k : Int) > 0 := by omega
      have hk2 : z.o.length ≤ 20 := by omega
      clear hk
      go_wp2_with fail
      refine (once_d g B 10 _ HS.out.fd).mono ?_
      rintro e wa ⟨t, rfl, HDa, HGa⟩
      have HSa : Hid (SSt w wa g B w.heap.size ns z a c) := HS.out.call HDa.out HGa.out
      clear HS HDa HGa hlt hltz
      go_upto_if 62 with fail
      go_cut [] (fun wx => ∃ (z : Sg) (a : Option Addr) (c : Nat), Hid (z.o.length ≤ 21) ∧ Hid (SSt w wx g B w.heap.size ns z a c))
      case first =>
        have HL : Hid (z.o.length ≤ 21) := (show z.o.length ≤ 21 by omega)
        rcases t with _ | _
        · go_wp2_with fail
          go_meet
          exact ⟨_, _, _, HL, HSa⟩
        · go_wp2_with fail
          refine (below_d g B 4 _ HSa.out.fd (by omega)).mono ?_
          rintro e wb ⟨y, rfl, y0, y1, HDb, HGb⟩
          have HSb : Hid (SSt w wb g B w.heap.size ns z a c) := HSa.out.call HDb.out HGb.out
          clear HSa HDb HGb
          have hy : y = 0 ∨ y = 1 ∨ y = 2 ∨ y = 3 := by omega
          clear y0 y1
          obtain ⟨v, ⟨dh, dr, ds, di⟩, ⟨mh, mr, ms, mi⟩, p, o⟩ := z
          simp only at hk2 HL
          rcases hy with rfl | rfl | rfl | rfl
          · have HSc : Hid (SSt w (wb.alloc (.cells (([0, 99, 100] : List Int).map (Value.int .i64)).toArray 3)) g B w.heap.size ns ⟨v, ⟨dh, dr, ds, di⟩, ⟨mh, mr, ms, mi⟩, p, o⟩ a c) := HSb.out.alloc _
            have HZ : Hid ((wb.alloc (.cells (([0, 99, 100] : List Int).map (Value.int .i64)).toArray 3)).heap[wb.heap.size]? = some (.cells (([0, 99, 100] : List Int).map (Value.int .i64)).toArray 3 (0, 0))) := heap_alloc_new _ _
            have hne : wb.heap.size ≠ g := by have := HSb.out.fd.lt'; omega
            clear HSb
            go_wp2_with fail
            refine (pick_d g wb.heap.size B [0, 99, 100] _ HSc.out.fd HZ.out hne (by simp) (by simp)).mono ?_
            rintro e wc ⟨pv, rfl, hp, HDc, HGc⟩
            have HSd : Hid (SSt w wc g B w.heap.size ns ⟨v, ⟨dh, dr, ds, di⟩, ⟨mh, mr, ms, mi⟩, p, o⟩ a c) := HSc.out.call HDc.out HGc.out
            clear HSc HZ HDc HGc hp hne
            have HQ : Hid (SSt w (wc.setCell ⟨ns, 0, none⟩ (.int .i64 pv)) g B w.heap.size ns ⟨pv, ⟨dh, dr, ds, di⟩, ⟨mh, mr, ms, mi⟩, p, o⟩ a c) := HSd.out.set 0 _ rfl rfl
            have s0 : wc.cell? ⟨ns, 0, none⟩ = some (.int .i64 v) := HSd.out.fb.cell 0 rfl
            have sf := HSd.out.fb.frozen 0
            clear HSd
            go_wp2_with fail
            go_meet
            exact ⟨_, _, _, HL, HQ⟩
          · have HQ : Hid (SSt w (wb.setCell ⟨ns, 9, none⟩ (.bool (!p))) g B w.heap.size ns ⟨v, ⟨dh, dr, ds, di⟩, ⟨mh, mr, ms, mi⟩, !p, o⟩ a c) := HSb.out.set 9 _ rfl rfl
            have s0 : wb.cell? ⟨ns, 9, none⟩ = some (.bool p) := HSb.out.fb.cell 9 rfl
            have sf := HSb.out.fb.frozen 9
            clear HSb
            cases p
            · go_wp2_with fail
              go_meet
              exact ⟨_, _, _, HL, HQ⟩
            · go_wp2_with fail
              go_meet
              exact ⟨_, _, _, HL, HQ⟩
          · go_wp2_with fail
            refine (below_d g B 4 _ HSb.out.fd (by omega)).mono ?_
            rintro e wc ⟨y, rfl, y0, y1, HDc, HGc⟩
            have HSd : Hid (SSt w wc g B w.heap.size ns ⟨v, ⟨dh, dr, ds, di⟩, ⟨mh, mr, ms, mi⟩, p, o⟩ a c) := HSb.out.call HDc.out HGc.out
            clear HSb HDc HGc
            have HQ : Hid (SSt w (wc.setCell ⟨ns, 7, none⟩ (.int .i64 y)) g B w.heap.size ns ⟨v, ⟨dh, dr, ds, di⟩, ⟨mh, mr, y, mi⟩, p, o⟩ a c) := HSd.out.set 7 _ rfl rfl
            have s0 : wc.cell? ⟨ns, 7, none⟩ = some (.int .i64 ms) := HSd.out.fb.cell 7 rfl
            have sf := HSd.out.fb.frozen 7
            clear HSd
            go_wp2_with fail
            go_meet
            exact ⟨_, _, _, HL, HQ⟩
          · go_wp2_with fail
            have HSd : Hid (SSt w wb.drew g B w.heap.size ns ⟨v, ⟨dh, dr, ds, di⟩, ⟨mh, mr, ms, mi⟩, p, o⟩ a c) := HSb.out.drew
            have sb10 : wb.cell? ⟨ns, 10, none⟩ = some (.slice a o.length c) := HSb.out.fb.cell 10 rfl
            go_region_law (first | (refine step_call1e (by rfl) 48 _ _ (by rfl) Try.f48 Try.func48 (by kernel_rfl) (by kernel_rfl) _ (by rfl) Vt (fun q => .agg #[.int .i64 q.h, .int .i64 q.r, .int .i64 q.s, .string q.i, .int .i64 q.v]) (fun x w' => Hid (Dr x.r x.i x.v) ∧ Hid (DS w' g B) ∧ Hid (wb.drew.grownBy w' (some g))) (vote_d g B _ HSd.out.fd HSd.out.hB) ?_; rintro ⟨yh, yr, ys, yi, yv⟩ w7 ⟨_, HD7, HG7⟩; simp only; have HS7 : Hid (SSt w w7 g B w.heap.size ns ⟨v, ⟨dh, dr, ds, di⟩, ⟨mh, mr, ms, mi⟩, p, o⟩ a c) := HSd.out.call HD7.out HG7.out; have y7 : w7.cell? ⟨ns, 10, none⟩ = some (.slice a o.length c) := HS7.out.fb.cell 10 rfl; obtain ⟨wt, hwt⟩ : ∃ W, w7.alloc (.cells #[.int .i64 yh, .int .i64 yr, .int .i64 ys, .string yi, .int .i64 yv] 31) = W := ⟨_, rfl⟩; obtain ⟨nt, hnt⟩ : ∃ n, w7.heap.size = n := ⟨_, rfl⟩; have HSt : Hid (SSt w wt g B w.heap.size ns ⟨v, ⟨dh, dr, ds, di⟩, ⟨mh, mr, ms, mi⟩, p, o⟩ a c) := (by rw [← hwt]; exact HS7.out.alloc _); have HVt : Hid (YO wt (some ⟨nt, 0, none⟩) [(⟨yh, yr, ys, yi, yv⟩ : Vt)]) := yo_one (y := ⟨yh, yr, ys, yi, yv⟩) (by (have hb := blk_new w7 [.int .i64 yh, .int .i64 yr, .int .i64 ys, .string yi, .int .i64 yv] 31); rw [hwt, hnt] at hb; exact hb); have yt : wt.cell? ⟨ns, 10, none⟩ = some (.slice a o.length c) := HSt.out.fb.cell 10 rfl) | (refine step_append_y (w := wt) (by rfl) _ _ (by rfl) (by rfl) HSt.out.fo (by rfl) HVt.out (fun e => by cases e) (by simp only [List.length_cons, List.length_nil]; omega) HSt.out.fg.size ?_; intro vq wq hown hgr; obtain ⟨qb, qd, rfl⟩ := own_shape hown; have yq : wq.cell? ⟨ns, 10, none⟩ = some (.slice a o.length c) := (HSt.out.apb hgr).cell 10 rfl; have fq := fun j => (HSt.out.apb hgr).frozen j))
            all_goals
              have hLL : (o ++ [(⟨yh, yr, ys, yi, yv⟩ : Vt)]).length = o.length + 1 := by simp
              have HQ : Hid (SSt w (wq.setCell ⟨ns, 10, none⟩ (.slice qb (o.length + 1) qd)) g B w.heap.size ns ⟨v, ⟨dh, dr, ds, di⟩, ⟨mh, mr, ms, mi⟩, p, o ++ [⟨yh, yr, ys, yi, yv⟩]⟩ qb qd) := by
                have h := HSt.out.app hgr hown
                rw [hLL] at h; exact h
              have HL2 : Hid ((o ++ [(⟨yh, yr, ys, yi, yv⟩ : Vt)]).length ≤ 21) := by rw [hLL]; exact (show o.length + 1 ≤ 21 by omega)
              clear HSb HSd HS7 HSt HVt hgr hown sb10 y7 yt yq fq hwt hnt HD7 HG7
              generalize (wq.setCell ⟨ns, 10, none⟩ (.slice qb (o.length + 1) qd)) = w5 at *
              go_wp2_with fail
              go_meet
              exact ⟨_, _, _, HL2, HQ⟩
      case rest =>
      clear HSa hk2
      obtain ⟨z, a, c, HL, HS⟩ := hcut
      rename World => wz
      obtain ⟨v, ⟨dh, dr, ds, di⟩, ⟨mh, mr, ms, mi⟩, p, o⟩ := z
      have HR := HS.out.res
      simp only at HR HL
      have HR2 : Hid (Blk (((((((((((wz.setCell ⟨w.heap.size, 0, none⟩ (.int .i64 v)).setCell ⟨w.heap.size, 1, none⟩ (.int .i64 dh)).setCell ⟨w.heap.size, 2, none⟩ (.int .i64 dr)).setCell ⟨w.heap.size, 3, none⟩ (.int .i64 ds)).setCell ⟨w.heap.size, 4, none⟩ (.string di)).setCell ⟨w.heap.size, 5, none⟩ (.int .i64 mh)).setCell ⟨w.heap.size, 6, none⟩ (.int .i64 mr)).setCell ⟨w.heap.size, 7, none⟩ (.int .i64 ms)).setCell ⟨w.heap.size, 8, none⟩ (.string mi)).setCell ⟨w.heap.size, 9, none⟩ (.bool p)).setCell ⟨w.heap.size, 10, none⟩ (.slice a o.length c)) w.heap.size [.int .i64 v, .int .i64 dh, .int .i64 dr, .int .i64 ds, .string di, .int .i64 mh, .int .i64 mr, .int .i64 ms, .string mi, .bool p, .slice a o.length c] 29) := HR.1
      have HR3 : Hid (OwnY (((((((((((wz.setCell ⟨w.heap.size, 0, none⟩ (.int .i64 v)).setCell ⟨w.heap.size, 1, none⟩ (.int .i64 dh)).setCell ⟨w.heap.size, 2, none⟩ (.int .i64 dr)).setCell ⟨w.heap.size, 3, none⟩ (.int .i64 ds)).setCell ⟨w.heap.size, 4, none⟩ (.string di)).setCell ⟨w.heap.size, 5, none⟩ (.int .i64 mh)).setCell ⟨w.heap.size, 6, none⟩ (.int .i64 mr)).setCell ⟨w.heap.size, 7, none⟩ (.int .i64 ms)).setCell ⟨w.heap.size, 8, none⟩ (.string mi)).setCell ⟨w.heap.size, 9, none⟩ (.bool p)).setCell ⟨w.heap.size, 10, none⟩ (.slice a o.length c)) w.heap.size (.slice a o.length c) o) := HR.2.1
      have HR4 : Hid (DS (((((((((((wz.setCell ⟨w.heap.size, 0, none⟩ (.int .i64 v)).setCell ⟨w.heap.size, 1, none⟩ (.int .i64 dh)).setCell ⟨w.heap.size, 2, none⟩ (.int .i64 dr)).setCell ⟨w.heap.size, 3, none⟩ (.int .i64 ds)).setCell ⟨w.heap.size, 4, none⟩ (.string di)).setCell ⟨w.heap.size, 5, none⟩ (.int .i64 mh)).setCell ⟨w.heap.size, 6, none⟩ (.int .i64 mr)).setCell ⟨w.heap.size, 7, none⟩ (.int .i64 ms)).setCell ⟨w.heap.size, 8, none⟩ (.string mi)).setCell ⟨w.heap.size, 9, none⟩ (.bool p)).setCell ⟨w.heap.size, 10, none⟩ (.slice a o.length c)) g B) := HR.2.2.1
      have HR5 : Hid (w.grownBy (((((((((((wz.setCell ⟨w.heap.size, 0, none⟩ (.int .i64 v)).setCell ⟨w.heap.size, 1, none⟩ (.int .i64 dh)).setCell ⟨w.heap.size, 2, none⟩ (.int .i64 dr)).setCell ⟨w.heap.size, 3, none⟩ (.int .i64 ds)).setCell ⟨w.heap.size, 4, none⟩ (.string di)).setCell ⟨w.heap.size, 5, none⟩ (.int .i64 mh)).setCell ⟨w.heap.size, 6, none⟩ (.int .i64 mr)).setCell ⟨w.heap.size, 7, none⟩ (.int .i64 ms)).setCell ⟨w.heap.size, 8, none⟩ (.string mi)).setCell ⟨w.heap.size, 9, none⟩ (.bool p)).setCell ⟨w.heap.size, 10, none⟩ (.slice a o.length c)) (some g)) := HR.2.2.2
      clear HR
      have s_0 : wz.cell? ⟨ns, 0, none⟩ = some (.int .i64 v) := HS.out.fb.cell 0 rfl
      have s_1 : wz.cell? ⟨ns, 1, none⟩ = some (.int .i64 dh) := HS.out.fb.cell 1 rfl
      have s_2 : wz.cell? ⟨ns, 2, none⟩ = some (.int .i64 dr) := HS.out.fb.cell 2 rfl
      have s_3 : wz.cell? ⟨ns, 3, none⟩ = some (.int .i64 ds) := HS.out.fb.cell 3 rfl
      have s_4 : wz.cell? ⟨ns, 4, none⟩ = some (.string di) := HS.out.fb.cell 4 rfl
      have s_5 : wz.cell? ⟨ns, 5, none⟩ = some (.int .i64 mh) := HS.out.fb.cell 5 rfl
      have s_6 : wz.cell? ⟨ns, 6, none⟩ = some (.int .i64 mr) := HS.out.fb.cell 6 rfl
      have s_7 : wz.cell? ⟨ns, 7, none⟩ = some (.int .i64 ms) := HS.out.fb.cell 7 rfl
      have s_8 : wz.cell? ⟨ns, 8, none⟩ = some (.string mi) := HS.out.fb.cell 8 rfl
      have s_9 : wz.cell? ⟨ns, 9, none⟩ = some (.bool p) := HS.out.fb.cell 9 rfl
      have s_10 : wz.cell? ⟨ns, 10, none⟩ = some (.slice a o.length c) := HS.out.fb.cell 10 rfl
      have r_0 : wz.cell? ⟨w.heap.size, 0, none⟩ = some (.int .i64 0) := HS.out.fz.cell 0 rfl
      have r_1 : wz.cell? ⟨w.heap.size, 1, none⟩ = some (.int .i64 0) := HS.out.fz.cell 1 rfl
      have r_2 : wz.cell? ⟨w.heap.size, 2, none⟩ = some (.int .i64 0) := HS.out.fz.cell 2 rfl
      have r_3 : wz.cell? ⟨w.heap.size, 3, none⟩ = some (.int .i64 0) := HS.out.fz.cell 3 rfl
      have r_4 : wz.cell? ⟨w.heap.size, 4, none⟩ = some (.string ⟨#[]⟩) := HS.out.fz.cell 4 rfl
      have r_5 : wz.cell? ⟨w.heap.size, 5, none⟩ = some (.int .i64 0) := HS.out.fz.cell 5 rfl
      have r_6 : wz.cell? ⟨w.heap.size, 6, none⟩ = some (.int .i64 0) := HS.out.fz.cell 6 rfl
      have r_7 : wz.cell? ⟨w.heap.size, 7, none⟩ = some (.int .i64 0) := HS.out.fz.cell 7 rfl
      have r_8 : wz.cell? ⟨w.heap.size, 8, none⟩ = some (.string ⟨#[]⟩) := HS.out.fz.cell 8 rfl
      have r_9 : wz.cell? ⟨w.heap.size, 9, none⟩ = some (.bool false) := HS.out.fz.cell 9 rfl
      have r_10 : wz.cell? ⟨w.heap.size, 10, none⟩ = some (.slice none 0 0) := HS.out.fz.cell 10 rfl
      have r_f := fun j => HS.out.fz.frozen j
      clear HS
      go_wp2_with fail
      clear s_0 s_1 s_2 s_3 s_4 s_5 s_6 s_7 s_8 s_9 s_10 r_f r_0 r_1 r_2 r_3 r_4 r_5 r_6 r_7 r_8 r_9 r_10
      generalize (((((((((((wz.setCell ⟨w.heap.size, 0, none⟩ (.int .i64 v)).setCell ⟨w.heap.size, 1, none⟩ (.int .i64 dh)).setCell ⟨w.heap.size, 2, none⟩ (.int .i64 dr)).setCell ⟨w.heap.size, 3, none⟩ (.int .i64 ds)).setCell ⟨w.heap.size, 4, none⟩ (.string di)).setCell ⟨w.heap.size, 5, none⟩ (.int .i64 mh)).setCell ⟨w.heap.size, 6, none⟩ (.int .i64 mr)).setCell ⟨w.heap.size, 7, none⟩ (.int .i64 ms)).setCell ⟨w.heap.size, 8, none⟩ (.string mi)).setCell ⟨w.heap.size, 9, none⟩ (.bool p)).setCell ⟨w.heap.size, 10, none⟩ (.slice a o.length c)) = w9 at *
      have y0 := HR2.out.cell 0 rfl
      have y1 := HR2.out.cell 1 rfl
      have y2 := HR2.out.cell 2 rfl
      have y3 := HR2.out.cell 3 rfl
      have y4 := HR2.out.cell 4 rfl
      have y5 := HR2.out.cell 5 rfl
      have y6 := HR2.out.cell 6 rfl
      have y7 := HR2.out.cell 7 rfl
      have y8 := HR2.out.cell 8 rfl
      have y9 := HR2.out.cell 9 rfl
      have y10 := HR2.out.cell 10 rfl
      refine bodyPost_ret (v := .agg #[.int .i64 v, .int .i64 dh, .int .i64 dr, .int .i64 ds, .string di, .int .i64 mh, .int .i64 mr, .int .i64 ms, .string mi, .bool p, .slice a o.length c]) (by simp [results, Try.results46, go_sem, y0, y1, y2, y3, y4, y5, y6, y7, y8, y9, y10]) rfl ⟨⟨v, ⟨dh, dr, ds, di⟩, ⟨mh, mr, ms, mi⟩, p, o⟩, a, c, rfl, HR3, HL, HR4, HR5⟩
end Go.Proofs.Ytmjlpdmdpagggaa
