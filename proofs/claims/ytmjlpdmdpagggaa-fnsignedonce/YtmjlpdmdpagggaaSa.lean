/- What signerAfter answers: a signer when deeds were done with it, in a row of its own. Conditions: small texts, rows of at most 2 to the 20 votes. -/
import Derived.Test.YtmjlpdmdpagggaaSd14
namespace Go.Proofs.Ytmjlpdmdpagggaa
open Go.RowKit
open Num
set_option linter.unusedVariables false
set_option maxHeartbeats 6400000 in
set_option maxRecDepth 100000 in
theorem after_any (x : Sg) (a : Option Addr) (cap : Nat) (da : Option Addr) (ds : List Deed) (dc : Nat) (w : World) (hl : YO w a x.o) (hz : a = none → cap = 0) (hfit : x.o.length ≤ cap ∧ cap ≤ 9223372036854775807) (hlen : x.o.length ≤ 1000) (hds : DAt w da ds) (hdl : ds.length ≤ 1000) (hsm : SmS x) (hsd : ∀ d ∈ ds, SmD d) :
    Calls Try.prog 38 #[sV x a cap, .slice da ds.length dc] w fun e w' => ∃ qa qc, e = .returned (sQ (acts x ds) (.slice qa (acts x ds).o.length qc)) ∧ Hid (OwnY w' w.heap.size (.slice qa (acts x ds).o.length qc) (acts x ds).o) ∧ Below w.heap.size w w' := by
  have HD0 : Hid (DAt w da ds) := hds
  have HSD : Hid (∀ d ∈ ds, SmD d) := hsd
  have HT0 : Hid (acts x (ds.take 0) = x) := rfl
  have HTE : Hid (acts x (ds.take ds.length) = acts x ds) := by show _ = _; rw [List.take_length]
  have HTS : Hid (∀ k (hk : k < ds.length), acts x (ds.take (k + 1)) = act (acts x (ds.take k)) ds[k]) := fun k hk => acts_snoc x ds k hk
  have HSX : Hid (SmS x) := hsm
  have HY0 : Hid (YN w.heap.size w a x.o) := hl.n (Nat.le_refl _)
  have HF0 : Hid ((a = none → cap = 0) ∧ x.o.length ≤ cap ∧ cap ≤ 9223372036854775807) := ⟨hz, hfit⟩
  clear hl hds hsm hsd hz hfit
  generalize hZ : (fun k => acts x (ds.take k)) = Z at *
  have HZ : Hid (∀ k, acts x (ds.take k) = Z k) := fun k => by rw [← hZ]
  have HZ0 : Hid (Z 0 = x) := (HZ.out 0).symm.trans HT0.out
  have HZE : Hid (Z ds.length = acts x ds) := (HZ.out _).symm.trans HTE.out
  have HZS : Hid (∀ k (hk : k < ds.length), Z (k + 1) = act (Z k) ds[k]) := fun k hk => by rw [← HZ.out, ← HZ.out]; exact HTS.out k hk
  clear hZ HZ HT0 HTE HTS
  generalize acts x ds = E at *
  obtain ⟨xv, ⟨xdh, xdr, xds, xdi⟩, ⟨xmh, xmr, xms, xmi⟩, xp, xo⟩ := x
  unfold sV sQ
  simp only at *
  obtain ⟨W0, hW0⟩ : ∃ W, (w.alloc (.cells #[.int .i64 xv, .int .i64 xdh, .int .i64 xdr, .int .i64 xds, .string xdi, .int .i64 xmh, .int .i64 xmr, .int .i64 xms, .string xmi, .bool xp, .slice a xo.length cap] 29)).alloc (.cells #[.int .i64 0, .int .i64 0, .int .i64 0, .int .i64 0, .string ⟨#[]⟩, .int .i64 0, .int .i64 0, .int .i64 0, .string ⟨#[]⟩, .bool false, .slice none 0 0] 29) = W := ⟨_, rfl⟩
  have HX0 : Hid (Blk W0 w.heap.size [.int .i64 xv, .int .i64 xdh, .int .i64 xdr, .int .i64 xds, .string xdi, .int .i64 xmh, .int .i64 xmr, .int .i64 xms, .string xmi, .bool xp, .slice a xo.length cap] 29) := by
    rw [← hW0]
    have hnew := blk_new (w) [.int .i64 xv, .int .i64 xdh, .int .i64 xdr, .int .i64 xds, .string xdi, .int .i64 xmh, .int .i64 xmr, .int .i64 xms, .string xmi, .bool xp, .slice a xo.length cap] 29
    exact (hnew.alloc _)
  have HR0 : Hid (Blk W0 (w.heap.size + 1) [.int .i64 0, .int .i64 0, .int .i64 0, .int .i64 0, .string ⟨#[]⟩, .int .i64 0, .int .i64 0, .int .i64 0, .string ⟨#[]⟩, .bool false, .slice none 0 0] 29) := by
    rw [← hW0]
    have hnew := blk_new (w.alloc (.cells #[.int .i64 xv, .int .i64 xdh, .int .i64 xdr, .int .i64 xds, .string xdi, .int .i64 xmh, .int .i64 xmr, .int .i64 xms, .string xmi, .bool xp, .slice a xo.length cap] 29)) [.int .i64 0, .int .i64 0, .int .i64 0, .int .i64 0, .string ⟨#[]⟩, .int .i64 0, .int .i64 0, .int .i64 0, .string ⟨#[]⟩, .bool false, .slice none 0 0] 29
    rw [show (w.alloc (.cells #[.int .i64 xv, .int .i64 xdh, .int .i64 xdr, .int .i64 xds, .string xdi, .int .i64 xmh, .int .i64 xmr, .int .i64 xms, .string xmi, .bool xp, .slice a xo.length cap] 29)).heap.size = w.heap.size + 1 from by simp] at hnew
    exact hnew
  have HB0 : Hid (Below w.heap.size w W0) := by rw [← hW0]; exact ((Below.refl w.heap.size w).alloc (Nat.le_refl _) _).alloc (by simp; try omega) _
  have HN0 : Hid (YN w.heap.size W0 a xo) := by
    rcases HY0.out with h | ⟨b, o, h1, h3, h2⟩
    · exact .inl h
    · rcases Nat.eq_zero_or_pos xo.length with h0 | h0
      · exact .inl h0
      · exact .inr ⟨b, o, h1, h3, h2.below HB0.out (h2.lt h0)⟩
  clear HY0
  go_enter Try.func38, Try.ntmps38
  go_wp2
  clear hW0
  go_loopw [13] (fun iv wr => ∃ (k : Nat) (z : Sg) (za : Option Addr) (zc : Nat), k ≤ ds.length ∧ iv = .int .i64 k ∧ Hid (z = Z k) ∧ Hid (Blk wr w.heap.size (sL z (.slice za z.o.length zc)) 29) ∧ Hid (YN w.heap.size wr za z.o) ∧ Hid ((za = none → zc = 0) ∧ z.o.length ≤ zc ∧ zc ≤ 9223372036854775807) ∧ Hid (SmS z) ∧ Hid (z.o.length ≤ 1000 + k) ∧ Hid (Blk wr (w.heap.size + 1) [.int .i64 0, .int .i64 0, .int .i64 0, .int .i64 0, .string ⟨#[]⟩, .int .i64 0, .int .i64 0, .int .i64 0, .string ⟨#[]⟩, .bool false, .slice none 0 0] 29) ∧ Hid (Below w.heap.size w wr)) (fun iv _ => ds.length - (intOf iv).toNat)
  case atStart => exact ⟨0, _, a, cap, Nat.zero_le _, rfl, HZ0.out.symm, HX0, HN0, HF0, HSX, (show xo.length ≤ 1000 + 0 by omega), HR0, HB0⟩
  case round =>
    obtain ⟨k, z, za, zc, hk, rfl, HZk, HX, HN, HF, HSz, HLz, HR, HB⟩ := hrel
    clear HX0 HN0 HF0 HSX HR0 HB0 HZ0
    by_cases hlt : k < ds.length
    · have hltz : (k : Int) < (ds.length : Int) := by omega
      rcases HD0.out with h0 | ⟨db, rfl, hdb, hdat⟩
      · omega
      have dk := (HB.out.cell (p := ⟨db, k, none⟩) hdb).trans (hdat k hlt)
      have HSk : Hid (SmD ds[k]) := HSD.out _ (List.getElem_mem hlt)
      have HZn : Hid (Z (k + 1) = act z ds[k]) := by show _ = _; rw [HZk.out]; exact HZS.out k hlt
      have HSn : Hid (SmS (act z ds[k])) := HSz.out.act _ HSk.out
      have HLn : Hid ((act z ds[k]).o.length ≤ 1000 + (k + 1)) := by have h1 := act_len z ds[k]; have h2 := HLz.out; show _ ≤ _; omega
      have hwX : w.heap.size + 1 < wr.heap.size := HR.out.lt
      clear hdat HZk HSz HZS
      generalize ds[k] = dd at *
      obtain ⟨v, ⟨dh, dr, dds, di⟩, ⟨mh, mr, ms, mi⟩, p, o⟩ := z
      unfold sL at HX
      simp only at HX HN HF
      have hlo : o.length ≤ 2000 := by have := HLz.out; simp only at this; omega
      clear HLz
      obtain ⟨fz, fl, fc⟩ := HF.out
      clear HF
      cases dd
      case hold y =>
        obtain ⟨yh, yr, ys, yi, yv⟩ := y
        unfold dV at dk
        simp only at dk
        have HZm : Hid (Z (k + 1) = ⟨v, ⟨dh, dr, dds, di⟩, ⟨yh, yr, ys, yi⟩, true, o⟩) := HZn.out
        have kO := fun W => impl_ofv ⟨yh, yr, ys, yi, yv⟩ W
        unfold tV gV ofV at kO
        simp only at kO
        have ta_hold := fun W v => as_hold_yes W v
        obtain ⟨wv, hwv⟩ : ∃ W, wr.alloc (.cells #[.int .i64 yh, .int .i64 yr, .int .i64 ys, .string yi, .int .i64 yv] 63) = W := ⟨_, rfl⟩
        obtain ⟨nb, hnb⟩ : ∃ n, wr.heap.size = n := ⟨_, rfl⟩
        have HA : Hid (Below wr.heap.size wr wv) := by rw [← hwv]; exact below_one _ _
        have HXv : Hid (Blk wv w.heap.size [.int .i64 v, .int .i64 dh, .int .i64 dr, .int .i64 dds, .string di, .int .i64 mh, .int .i64 mr, .int .i64 ms, .string mi, .bool p, .slice za o.length zc] 29) := HX.out.below HA.out HX.out.lt
        have HRv : Hid (Blk wv (w.heap.size + 1) [.int .i64 0, .int .i64 0, .int .i64 0, .int .i64 0, .string ⟨#[]⟩, .int .i64 0, .int .i64 0, .int .i64 0, .string ⟨#[]⟩, .bool false, .slice none 0 0] 29) := HR.out.below HA.out HR.out.lt
        have HBv : Hid (Below w.heap.size w wv) := HB.out.trans (HA.out.mono HB.out.size)
        have HNv : Hid (YN w.heap.size wv za o) := HN.out.below HA.out
        have HVv : Hid (Blk wv nb [.int .i64 yh, .int .i64 yr, .int .i64 ys, .string yi, .int .i64 yv] 63) := by rw [← hwv, ← hnb]; exact blk_new _ _ _
        rw [hnb] at hwX
        clear HX HR HB HN HA HZn
        have cV_0 := HVv.out.cell 0 rfl
        have cV_1 := HVv.out.cell 1 rfl
        have cV_2 := HVv.out.cell 2 rfl
        have cV_3 := HVv.out.cell 3 rfl
        have cV_4 := HVv.out.cell 4 rfl
        go_wp2_with fail
        clear hwv hnb cV_0 cV_1 cV_2 cV_3 cV_4
        refine (kO _).mono ?_
        rintro e w1 ⟨rfl, bb⟩
        have HX1 : Hid (Blk w1 w.heap.size [.int .i64 v, .int .i64 dh, .int .i64 dr, .int .i64 dds, .string di, .int .i64 mh, .int .i64 mr, .int .i64 ms, .string mi, .bool p, .slice za o.length zc] 29) := HXv.out.below bb HXv.out.lt
        have HR1 : Hid (Blk w1 (w.heap.size + 1) [.int .i64 0, .int .i64 0, .int .i64 0, .int .i64 0, .string ⟨#[]⟩, .int .i64 0, .int .i64 0, .int .i64 0, .string ⟨#[]⟩, .bool false, .slice none 0 0] 29) := HRv.out.below bb HRv.out.lt
        have HV1 : Hid (Blk w1 nb [.int .i64 yh, .int .i64 yr, .int .i64 ys, .string yi, .int .i64 yv] 63) := HVv.out.below bb HVv.out.lt
        have HN1 : Hid (YN w.heap.size w1 za o) := HNv.out.below bb
        have HB1 : Hid (Below w.heap.size w w1) := HBv.out.trans (bb.mono HBv.out.size)
        clear HXv HRv HVv HBv HNv
        clear bb
        clear kO
        have cX_0 := HX1.out.cell 0 rfl
        have cX_1 := HX1.out.cell 1 rfl
        have cX_2 := HX1.out.cell 2 rfl
        have cX_3 := HX1.out.cell 3 rfl
        have cX_4 := HX1.out.cell 4 rfl
        have cX_5 := HX1.out.cell 5 rfl
        have cX_6 := HX1.out.cell 6 rfl
        have cX_7 := HX1.out.cell 7 rfl
        have cX_8 := HX1.out.cell 8 rfl
        have cX_9 := HX1.out.cell 9 rfl
        have cX_10 := HX1.out.cell 10 rfl
        have zX := fun j => HX1.out.frozen j
        have KX := (((((HX1.out.set 5 (.int .i64 yh)).set 6 (.int .i64 yr)).set 7 (.int .i64 ys)).set 8 (.string yi)).set 9 (.bool true))
        have KR := (((((HR1.out.other 5 (.int .i64 yh) (show (w.heap.size + 1) ≠ w.heap.size by omega)).other 6 (.int .i64 yr) (show (w.heap.size + 1) ≠ w.heap.size by omega)).other 7 (.int .i64 ys) (show (w.heap.size + 1) ≠ w.heap.size by omega)).other 8 (.string yi) (show (w.heap.size + 1) ≠ w.heap.size by omega)).other 9 (.bool true) (show (w.heap.size + 1) ≠ w.heap.size by omega))
        have KV := (((((HV1.out.other 5 (.int .i64 yh) (show nb ≠ w.heap.size by omega)).other 6 (.int .i64 yr) (show nb ≠ w.heap.size by omega)).other 7 (.int .i64 ys) (show nb ≠ w.heap.size by omega)).other 8 (.string yi) (show nb ≠ w.heap.size by omega)).other 9 (.bool true) (show nb ≠ w.heap.size by omega))
        have KB := (((((HB1.out.setCell (p := ⟨w.heap.size, 5, none⟩) (show w.heap.size ≤ w.heap.size by omega) (.int .i64 yh)).setCell (p := ⟨w.heap.size, 6, none⟩) (show w.heap.size ≤ w.heap.size by omega) (.int .i64 yr)).setCell (p := ⟨w.heap.size, 7, none⟩) (show w.heap.size ≤ w.heap.size by omega) (.int .i64 ys)).setCell (p := ⟨w.heap.size, 8, none⟩) (show w.heap.size ≤ w.heap.size by omega) (.string yi)).setCell (p := ⟨w.heap.size, 9, none⟩) (show w.heap.size ≤ w.heap.size by omega) (.bool true))
        have KG : Hid (w1.grownBy (((((w1.setCell ⟨w.heap.size, 5, none⟩ (.int .i64 yh)).setCell ⟨w.heap.size, 6, none⟩ (.int .i64 yr)).setCell ⟨w.heap.size, 7, none⟩ (.int .i64 ys)).setCell ⟨w.heap.size, 8, none⟩ (.string yi)).setCell ⟨w.heap.size, 9, none⟩ (.bool true)) (some w.heap.size)) := grown_set (grown_set (grown_set (grown_set (grown_set (grown_refl _ _) _) _) _) _) _
        have KN : Hid (YN w.heap.size (((((w1.setCell ⟨w.heap.size, 5, none⟩ (.int .i64 yh)).setCell ⟨w.heap.size, 6, none⟩ (.int .i64 yr)).setCell ⟨w.heap.size, 7, none⟩ (.int .i64 ys)).setCell ⟨w.heap.size, 8, none⟩ (.string yi)).setCell ⟨w.heap.size, 9, none⟩ (.bool true)) za o) := HN1.out.set KG.out
        go_upto_region 17 with fail
        clear cX_0 cX_1 cX_2 cX_3 cX_4 cX_5 cX_6 cX_7 cX_8 cX_9 cX_10 zX
        generalize ((((((w1.setCell _ _).setCell _ _).setCell _ _).setCell _ _).setCell _ _) : World) = w2 at *
        have HX2 : Hid (Blk w2 w.heap.size [.int .i64 v, .int .i64 dh, .int .i64 dr, .int .i64 dds, .string di, .int .i64 yh, .int .i64 yr, .int .i64 ys, .string yi, .bool true, .slice za o.length zc] 29) := KX
        have HR2 : Hid (Blk w2 (w.heap.size + 1) [.int .i64 0, .int .i64 0, .int .i64 0, .int .i64 0, .string ⟨#[]⟩, .int .i64 0, .int .i64 0, .int .i64 0, .string ⟨#[]⟩, .bool false, .slice none 0 0] 29) := KR
        have HV2 : Hid (Blk w2 nb [.int .i64 yh, .int .i64 yr, .int .i64 ys, .string yi, .int .i64 yv] 63) := KV
        have HN2 : Hid (YN w.heap.size w2 za o) := KN
        have HB2 : Hid (Below w.heap.size w w2) := KB
        clear KX KR KV KB KG KN HX1 HR1 HV1 HB1 HN1
        go_wp2
        go_roundw
        case rel =>
          have R0 : ∃ (k0 : Nat) (z : Sg) (za : Option Addr) (zc : Nat), k0 ≤ ds.length ∧ Value.int .i64 ((k : Int) + 1) = .int .i64 k0 ∧ Hid (z = Z k0) ∧ Hid (Blk w2 w.heap.size (sL z (.slice za z.o.length zc)) 29) ∧ Hid (YN w.heap.size w2 za z.o) ∧ Hid ((za = none → zc = 0) ∧ z.o.length ≤ zc ∧ zc ≤ 9223372036854775807) ∧ Hid (SmS z) ∧ Hid (z.o.length ≤ 1000 + k0) ∧ Hid (Blk w2 (w.heap.size + 1) [.int .i64 0, .int .i64 0, .int .i64 0, .int .i64 0, .string ⟨#[]⟩, .int .i64 0, .int .i64 0, .int .i64 0, .string ⟨#[]⟩, .bool false, .slice none 0 0] 29) ∧ Hid (Below w.heap.size w w2) := ⟨k + 1, _, za, zc, by omega, by go_num, HZm.out.symm, HX2, HN2, ⟨fz, fl, fc⟩, HSn, HLn, HR2, HB2⟩
          first | exact R0 | ((repeat apply Exists.intro); exact ⟨R0, rfl⟩) | ((repeat apply Exists.intro); exact ⟨rfl, R0⟩)
        case measure => simp [intOf]; omega
      case sync =>
        unfold dV at dk
        simp only at dk
        have HZm : Hid (Z (k + 1) = ⟨v, ⟨mh, mr, ms, mi⟩, ⟨mh, mr, ms, mi⟩, false, o⟩) := HZn.out
        have ta_hold := fun W v => as_hold_sync W v
        have ta_sync := fun W v => as_sync_yes W v
        obtain ⟨wv, hwv⟩ : ∃ W, wr.alloc (.cells #[] 69) = W := ⟨_, rfl⟩
        obtain ⟨nb, hnb⟩ : ∃ n, wr.heap.size = n := ⟨_, rfl⟩
        have HA : Hid (Below wr.heap.size wr wv) := by rw [← hwv]; exact below_one _ _
        have HXv : Hid (Blk wv w.heap.size [.int .i64 v, .int .i64 dh, .int .i64 dr, .int .i64 dds, .string di, .int .i64 mh, .int .i64 mr, .int .i64 ms, .string mi, .bool p, .slice za o.length zc] 29) := HX.out.below HA.out HX.out.lt
        have HRv : Hid (Blk wv (w.heap.size + 1) [.int .i64 0, .int .i64 0, .int .i64 0, .int .i64 0, .string ⟨#[]⟩, .int .i64 0, .int .i64 0, .int .i64 0, .string ⟨#[]⟩, .bool false, .slice none 0 0] 29) := HR.out.below HA.out HR.out.lt
        have HBv : Hid (Below w.heap.size w wv) := HB.out.trans (HA.out.mono HB.out.size)
        have HNv : Hid (YN w.heap.size wv za o) := HN.out.below HA.out
        clear HX HR HB HN HA HZn
        have cX_0 := HXv.out.cell 0 rfl
        have cX_1 := HXv.out.cell 1 rfl
        have cX_2 := HXv.out.cell 2 rfl
        have cX_3 := HXv.out.cell 3 rfl
        have cX_4 := HXv.out.cell 4 rfl
        have cX_5 := HXv.out.cell 5 rfl
        have cX_6 := HXv.out.cell 6 rfl
        have cX_7 := HXv.out.cell 7 rfl
        have cX_8 := HXv.out.cell 8 rfl
        have cX_9 := HXv.out.cell 9 rfl
        have cX_10 := HXv.out.cell 10 rfl
        have zX := fun j => HXv.out.frozen j
        have KX := (((((HXv.out.set 1 (.int .i64 mh)).set 2 (.int .i64 mr)).set 3 (.int .i64 ms)).set 4 (.string mi)).set 9 (.bool false))
        have KR := (((((HRv.out.other 1 (.int .i64 mh) (show (w.heap.size + 1) ≠ w.heap.size by omega)).other 2 (.int .i64 mr) (show (w.heap.size + 1) ≠ w.heap.size by omega)).other 3 (.int .i64 ms) (show (w.heap.size + 1) ≠ w.heap.size by omega)).other 4 (.string mi) (show (w.heap.size + 1) ≠ w.heap.size by omega)).other 9 (.bool false) (show (w.heap.size + 1) ≠ w.heap.size by omega))
        have KB := (((((HBv.out.setCell (p := ⟨w.heap.size, 1, none⟩) (show w.heap.size ≤ w.heap.size by omega) (.int .i64 mh)).setCell (p := ⟨w.heap.size, 2, none⟩) (show w.heap.size ≤ w.heap.size by omega) (.int .i64 mr)).setCell (p := ⟨w.heap.size, 3, none⟩) (show w.heap.size ≤ w.heap.size by omega) (.int .i64 ms)).setCell (p := ⟨w.heap.size, 4, none⟩) (show w.heap.size ≤ w.heap.size by omega) (.string mi)).setCell (p := ⟨w.heap.size, 9, none⟩) (show w.heap.size ≤ w.heap.size by omega) (.bool false))
        have KG : Hid (wv.grownBy (((((wv.setCell ⟨w.heap.size, 1, none⟩ (.int .i64 mh)).setCell ⟨w.heap.size, 2, none⟩ (.int .i64 mr)).setCell ⟨w.heap.size, 3, none⟩ (.int .i64 ms)).setCell ⟨w.heap.size, 4, none⟩ (.string mi)).setCell ⟨w.heap.size, 9, none⟩ (.bool false)) (some w.heap.size)) := grown_set (grown_set (grown_set (grown_set (grown_set (grown_refl _ _) _) _) _) _) _
        have KN : Hid (YN w.heap.size (((((wv.setCell ⟨w.heap.size, 1, none⟩ (.int .i64 mh)).setCell ⟨w.heap.size, 2, none⟩ (.int .i64 mr)).setCell ⟨w.heap.size, 3, none⟩ (.int .i64 ms)).setCell ⟨w.heap.size, 4, none⟩ (.string mi)).setCell ⟨w.heap.size, 9, none⟩ (.bool false)) za o) := HNv.out.set KG.out
        go_upto_region 17 with fail
        clear hwv hnb cX_0 cX_1 cX_2 cX_3 cX_4 cX_5 cX_6 cX_7 cX_8 cX_9 cX_10 zX
        generalize ((((((wv.setCell _ _).setCell _ _).setCell _ _).setCell _ _).setCell _ _) : World) = w1 at *
        have HX1 : Hid (Blk w1 w.heap.size [.int .i64 v, .int .i64 mh, .int .i64 mr, .int .i64 ms, .string mi, .int .i64 mh, .int .i64 mr, .int .i64 ms, .string mi, .bool false, .slice za o.length zc] 29) := KX
        have HR1 : Hid (Blk w1 (w.heap.size + 1) [.int .i64 0, .int .i64 0, .int .i64 0, .int .i64 0, .string ⟨#[]⟩, .int .i64 0, .int .i64 0, .int .i64 0, .string ⟨#[]⟩, .bool false, .slice none 0 0] 29) := KR
        have HN1 : Hid (YN w.heap.size w1 za o) := KN
        have HB1 : Hid (Below w.heap.size w w1) := KB
        clear KX KR KB KG KN HXv HRv HBv HNv
        go_wp2
        go_roundw
        case rel =>
          have R0 : ∃ (k0 : Nat) (z : Sg) (za : Option Addr) (zc : Nat), k0 ≤ ds.length ∧ Value.int .i64 ((k : Int) + 1) = .int .i64 k0 ∧ Hid (z = Z k0) ∧ Hid (Blk w1 w.heap.size (sL z (.slice za z.o.length zc)) 29) ∧ Hid (YN w.heap.size w1 za z.o) ∧ Hid ((za = none → zc = 0) ∧ z.o.length ≤ zc ∧ zc ≤ 9223372036854775807) ∧ Hid (SmS z) ∧ Hid (z.o.length ≤ 1000 + k0) ∧ Hid (Blk w1 (w.heap.size + 1) [.int .i64 0, .int .i64 0, .int .i64 0, .int .i64 0, .string ⟨#[]⟩, .int .i64 0, .int .i64 0, .int .i64 0, .string ⟨#[]⟩, .bool false, .slice none 0 0] 29) ∧ Hid (Below w.heap.size w w1) := ⟨k + 1, _, za, zc, by omega, by go_num, HZm.out.symm, HX1, HN1, ⟨fz, fl, fc⟩, HSn, HLn, HR1, HB1⟩
          first | exact R0 | ((repeat apply Exists.intro); exact ⟨R0, rfl⟩) | ((repeat apply Exists.intro); exact ⟨rfl, R0⟩)
        case measure => simp [intOf]; omega
      case tell y =>
        obtain ⟨yh, yr, ys, yi, yv⟩ := y
        unfold dV at dk
        simp only at dk
        have HZm : Hid (Z (k + 1) = ⟨v, ⟨dh, dr, dds, di⟩, ⟨mh, mr, ms, mi⟩, p, o ++ [⟨yh, yr, ys, yi, yv⟩]⟩) := HZn.out
        have ta_hold := fun W v => as_hold_tell W v
        have ta_sync := fun W v => as_sync_tell W v
        have ta_tell := fun W v => as_tell_yes W v
        obtain ⟨wv, hwv⟩ : ∃ W, wr.alloc (.cells #[.int .i64 yh, .int .i64 yr, .int .i64 ys, .string yi, .int .i64 yv] 65) = W := ⟨_, rfl⟩
        obtain ⟨nb, hnb⟩ : ∃ n, wr.heap.size = n := ⟨_, rfl⟩
        have HA : Hid (Below wr.heap.size wr wv) := by rw [← hwv]; exact below_one _ _
        have HXv : Hid (Blk wv w.heap.size [.int .i64 v, .int .i64 dh, .int .i64 dr, .int .i64 dds, .string di, .int .i64 mh, .int .i64 mr, .int .i64 ms, .string mi, .bool p, .slice za o.length zc] 29) := HX.out.below HA.out HX.out.lt
        have HRv : Hid (Blk wv (w.heap.size + 1) [.int .i64 0, .int .i64 0, .int .i64 0, .int .i64 0, .string ⟨#[]⟩, .int .i64 0, .int .i64 0, .int .i64 0, .string ⟨#[]⟩, .bool false, .slice none 0 0] 29) := HR.out.below HA.out HR.out.lt
        have HBv : Hid (Below w.heap.size w wv) := HB.out.trans (HA.out.mono HB.out.size)
        have HNv : Hid (YN w.heap.size wv za o) := HN.out.below HA.out
        have HVv : Hid (Blk wv nb [.int .i64 yh, .int .i64 yr, .int .i64 ys, .string yi, .int .i64 yv] 65) := by rw [← hwv, ← hnb]; exact blk_new _ _ _
        rw [hnb] at hwX
        clear HX HR HB HN HA HZn
        have kC := fun W => impl_clip za o.length zc W fl fz fc
        have HXd : Hid (Blk wv.drew w.heap.size [.int .i64 v, .int .i64 dh, .int .i64 dr, .int .i64 dds, .string di, .int .i64 mh, .int .i64 mr, .int .i64 ms, .string mi, .bool p, .slice za o.length zc] 29) := HXv.out.below (Below.refl _ _).drew HXv.out.lt
        have HRd : Hid (Blk wv.drew (w.heap.size + 1) [.int .i64 0, .int .i64 0, .int .i64 0, .int .i64 0, .string ⟨#[]⟩, .int .i64 0, .int .i64 0, .int .i64 0, .string ⟨#[]⟩, .bool false, .slice none 0 0] 29) := HRv.out.below (Below.refl _ _).drew HRv.out.lt
        have HVd : Hid (Blk wv.drew nb [.int .i64 yh, .int .i64 yr, .int .i64 ys, .string yi, .int .i64 yv] 65) := HVv.out.below (Below.refl _ _).drew HVv.out.lt
        have HNd : Hid (YN w.heap.size wv.drew za o) := HNv.out.below (Below.refl _ _).drew
        obtain ⟨wt, hwt⟩ : ∃ W, wv.drew.alloc (.cells #[.int .i64 yh, .int .i64 yr, .int .i64 ys, .string yi, .int .i64 yv] 31) = W := ⟨_, rfl⟩
        obtain ⟨nt, hnt⟩ : ∃ n, wv.heap.size = n := ⟨_, rfl⟩
        have hwXt : w.heap.size + 1 < nt := by rw [← hnt]; exact HRv.out.lt
        have HAt : Hid (Below wv.drew.heap.size wv.drew wt) := by rw [← hwt]; exact below_one _ _
        have HXt : Hid (Blk wt w.heap.size [.int .i64 v, .int .i64 dh, .int .i64 dr, .int .i64 dds, .string di, .int .i64 mh, .int .i64 mr, .int .i64 ms, .string mi, .bool p, .slice za o.length zc] 29) := HXd.out.below HAt.out HXd.out.lt
        have HRt : Hid (Blk wt (w.heap.size + 1) [.int .i64 0, .int .i64 0, .int .i64 0, .int .i64 0, .string ⟨#[]⟩, .int .i64 0, .int .i64 0, .int .i64 0, .string ⟨#[]⟩, .bool false, .slice none 0 0] 29) := HRd.out.below HAt.out HRd.out.lt
        have HNt : Hid (YO wt za o) := (HNd.out.below HAt.out).o
        have HBt : Hid (Below w.heap.size w wt) := (HBv.out.trans ((Below.refl _ _).drew.mono HBv.out.size)).trans (HAt.out.mono (by have := HBv.out.size; simp; omega))
        have HCt : Hid (∀ j u, (yLs ⟨yh, yr, ys, yi, yv⟩)[j]? = some u → wt.cell? ((⟨nt, 0, none⟩ : Addr).add j) = some u) := by rw [← hwt]; exact one_v wv.drew ⟨yh, yr, ys, yi, yv⟩ nt hnt.symm
        have hnt2 : nt < wt.heap.size := by rw [← hwt]; simp; omega
        have cX_0 := HXv.out.cell 0 rfl
        have cX_1 := HXv.out.cell 1 rfl
        have cX_2 := HXv.out.cell 2 rfl
        have cX_3 := HXv.out.cell 3 rfl
        have cX_4 := HXv.out.cell 4 rfl
        have cX_5 := HXv.out.cell 5 rfl
        have cX_6 := HXv.out.cell 6 rfl
        have cX_7 := HXv.out.cell 7 rfl
        have cX_8 := HXv.out.cell 8 rfl
        have cX_9 := HXv.out.cell 9 rfl
        have cX_10 := HXv.out.cell 10 rfl
        have cV_0 := HVv.out.cell 0 rfl
        have cV_1 := HVv.out.cell 1 rfl
        have cV_2 := HVv.out.cell 2 rfl
        have cV_3 := HVv.out.cell 3 rfl
        have cV_4 := HVv.out.cell 4 rfl
        have zX := fun j => HXv.out.frozen j
        have xt10 := HXt.out.cell 10 rfl
        go_wp2_with fail
        go_region_law (first | (refine step_call1 (by rfl) 67 _ _ (by rfl) Try.f67 Try.func67 (by kernel_rfl) (by kernel_rfl) _ _ (by rfl) _ (kC _) ?_; intro w1 b1; rw [b1]; clear b1 w1) | (refine step_append_cut (w := wt) (by rfl) _ _ (by rfl) (by rfl) (by rfl) HNt.out HCt.out (by omega) ?_; intro vq wq hown hgr; obtain ⟨qa, qc, rfl⟩ := own_shape hown; have HXq : Hid (Blk wq w.heap.size [.int .i64 v, .int .i64 dh, .int .i64 dr, .int .i64 dds, .string di, .int .i64 mh, .int .i64 mr, .int .i64 ms, .string mi, .bool p, .slice za o.length zc] 29) := HXt.out.grown hgr (by simp); have xq := HXq.out.cell 10 rfl; have fq := fun j => HXq.out.frozen j))
        all_goals
          have hLL : (o ++ [(⟨yh, yr, ys, yi, yv⟩ : Vt)]).length = o.length + 1 := by simp
          have HOq : Hid (OwnY wq wt.heap.size (.slice qa (o ++ [(⟨yh, yr, ys, yi, yv⟩ : Vt)]).length qc) (o ++ [⟨yh, yr, ys, yi, yv⟩])) := hown
          have HGq : Hid (wt.grownBy wq none) := hgr
          clear hown hgr
          have KX := HXq.out.set 10 (.slice qa (o.length + 1) qc)
          have KR := (HRt.out.grown HGq.out (by simp)).other (g' := w.heap.size) 10 (.slice qa (o.length + 1) qc) (by omega)
          have KB := (HBt.out.grown HGq.out HBt.out.size (fun j hj => by cases hj)).setCell (p := ⟨w.heap.size, 10, none⟩) (Nat.le_refl _) (.slice qa (o.length + 1) qc)
          have KG : Hid (wq.grownBy (wq.setCell ⟨w.heap.size, 10, none⟩ (.slice qa (o.length + 1) qc)) (some w.heap.size)) := gr_set _ _ _ _
          have KO : Hid (OwnY (wq.setCell ⟨w.heap.size, 10, none⟩ (.slice qa (o.length + 1) qc)) wt.heap.size (.slice qa (o ++ [(⟨yh, yr, ys, yi, yv⟩ : Vt)]).length qc) (o ++ [⟨yh, yr, ys, yi, yv⟩])) := own_still HOq.out KG.out (fun j e => by injection e with e; omega)
          clear xq fq xt10 cX_0 cX_1 cX_2 cX_3 cX_4 cX_5 cX_6 cX_7 cX_8 cX_9 cX_10 cV_0 cV_1 cV_2 cV_3 cV_4 zX HOq HGq KG HXq HCt HNt HBt HXt HRt HXd HRd HVd HNd hwt hnt HXv HRv HVv HNv HBv kC
          generalize (wq.setCell ⟨w.heap.size, 10, none⟩ (.slice qa (o.length + 1) qc)) = w5 at *
          have HX5 : Hid (Blk w5 w.heap.size [.int .i64 v, .int .i64 dh, .int .i64 dr, .int .i64 dds, .string di, .int .i64 mh, .int .i64 mr, .int .i64 ms, .string mi, .bool p, .slice qa (o ++ [(⟨yh, yr, ys, yi, yv⟩ : Vt)]).length qc] 29) := by rw [hLL]; exact KX
          have HR5 : Hid (Blk w5 (w.heap.size + 1) [.int .i64 0, .int .i64 0, .int .i64 0, .int .i64 0, .string ⟨#[]⟩, .int .i64 0, .int .i64 0, .int .i64 0, .string ⟨#[]⟩, .bool false, .slice none 0 0] 29) := KR
          have HB5 : Hid (Below w.heap.size w w5) := KB
          have HN5 : Hid (YN w.heap.size w5 qa (o ++ [⟨yh, yr, ys, yi, yv⟩])) := KO.out.n (by omega)
          have HFn : Hid ((qa = none → qc = 0) ∧ (o ++ [(⟨yh, yr, ys, yi, yv⟩ : Vt)]).length ≤ qc ∧ qc ≤ 9223372036854775807) := KO.out.fit
          clear KX KR KB KO hLL
          go_wp2
          go_roundw
          case rel =>
            have R0 : ∃ (k0 : Nat) (z : Sg) (za : Option Addr) (zc : Nat), k0 ≤ ds.length ∧ Value.int .i64 ((k : Int) + 1) = .int .i64 k0 ∧ Hid (z = Z k0) ∧ Hid (Blk w5 w.heap.size (sL z (.slice za z.o.length zc)) 29) ∧ Hid (YN w.heap.size w5 za z.o) ∧ Hid ((za = none → zc = 0) ∧ z.o.length ≤ zc ∧ zc ≤ 9223372036854775807) ∧ Hid (SmS z) ∧ Hid (z.o.length ≤ 1000 + k0) ∧ Hid (Blk w5 (w.heap.size + 1) [.int .i64 0, .int .i64 0, .int .i64 0, .int .i64 0, .string ⟨#[]⟩, .int .i64 0, .int .i64 0, .int .i64 0, .string ⟨#[]⟩, .bool false, .slice none 0 0] 29) ∧ Hid (Below w.heap.size w w5) := ⟨k + 1, _, qa, qc, by omega, by go_num, HZm.out.symm, HX5, HN5, HFn, HSn, HLn, HR5, HB5⟩
            first | exact R0 | ((repeat apply Exists.intro); exact ⟨R0, rfl⟩) | ((repeat apply Exists.intro); exact ⟨rfl, R0⟩)
          case measure => simp [intOf]; omega
      case fall =>
        unfold dV at dk
        simp only at dk
        have HZm : Hid (Z (k + 1) = ⟨v, ⟨dh, dr, dds, di⟩, ⟨dh, dr, dds, di⟩, false, o⟩) := HZn.out
        have ta_hold := fun W v => as_hold_fall W v
        have ta_sync := fun W v => as_sync_fall W v
        have ta_tell := fun W v => as_tell_fall W v
        have ta_fall := fun W v => as_fall_yes W v
        obtain ⟨wv, hwv⟩ : ∃ W, wr.alloc (.cells #[] 72) = W := ⟨_, rfl⟩
        obtain ⟨nb, hnb⟩ : ∃ n, wr.heap.size = n := ⟨_, rfl⟩
        have HA : Hid (Below wr.heap.size wr wv) := by rw [← hwv]; exact below_one _ _
        have HXv : Hid (Blk wv w.heap.size [.int .i64 v, .int .i64 dh, .int .i64 dr, .int .i64 dds, .string di, .int .i64 mh, .int .i64 mr, .int .i64 ms, .string mi, .bool p, .slice za o.length zc] 29) := HX.out.below HA.out HX.out.lt
        have HRv : Hid (Blk wv (w.heap.size + 1) [.int .i64 0, .int .i64 0, .int .i64 0, .int .i64 0, .string ⟨#[]⟩, .int .i64 0, .int .i64 0, .int .i64 0, .string ⟨#[]⟩, .bool false, .slice none 0 0] 29) := HR.out.below HA.out HR.out.lt
        have HBv : Hid (Below w.heap.size w wv) := HB.out.trans (HA.out.mono HB.out.size)
        have HNv : Hid (YN w.heap.size wv za o) := HN.out.below HA.out
        clear HX HR HB HN HA HZn
        have cX_0 := HXv.out.cell 0 rfl
        have cX_1 := HXv.out.cell 1 rfl
        have cX_2 := HXv.out.cell 2 rfl
        have cX_3 := HXv.out.cell 3 rfl
        have cX_4 := HXv.out.cell 4 rfl
        have cX_5 := HXv.out.cell 5 rfl
        have cX_6 := HXv.out.cell 6 rfl
        have cX_7 := HXv.out.cell 7 rfl
        have cX_8 := HXv.out.cell 8 rfl
        have cX_9 := HXv.out.cell 9 rfl
        have cX_10 := HXv.out.cell 10 rfl
        have zX := fun j => HXv.out.frozen j
        have KX := (((((HXv.out.set 5 (.int .i64 dh)).set 6 (.int .i64 dr)).set 7 (.int .i64 dds)).set 8 (.string di)).set 9 (.bool false))
        have KR := (((((HRv.out.other 5 (.int .i64 dh) (show (w.heap.size + 1) ≠ w.heap.size by omega)).other 6 (.int .i64 dr) (show (w.heap.size + 1) ≠ w.heap.size by omega)).other 7 (.int .i64 dds) (show (w.heap.size + 1) ≠ w.heap.size by omega)).other 8 (.string di) (show (w.heap.size + 1) ≠ w.heap.size by omega)).other 9 (.bool false) (show (w.heap.size + 1) ≠ w.heap.size by omega))
        have KB := (((((HBv.out.setCell (p := ⟨w.heap.size, 5, none⟩) (show w.heap.size ≤ w.heap.size by omega) (.int .i64 dh)).setCell (p := ⟨w.heap.size, 6, none⟩) (show w.heap.size ≤ w.heap.size by omega) (.int .i64 dr)).setCell (p := ⟨w.heap.size, 7, none⟩) (show w.heap.size ≤ w.heap.size by omega) (.int .i64 dds)).setCell (p := ⟨w.heap.size, 8, none⟩) (show w.heap.size ≤ w.heap.size by omega) (.string di)).setCell (p := ⟨w.heap.size, 9, none⟩) (show w.heap.size ≤ w.heap.size by omega) (.bool false))
        have KG : Hid (wv.grownBy (((((wv.setCell ⟨w.heap.size, 5, none⟩ (.int .i64 dh)).setCell ⟨w.heap.size, 6, none⟩ (.int .i64 dr)).setCell ⟨w.heap.size, 7, none⟩ (.int .i64 dds)).setCell ⟨w.heap.size, 8, none⟩ (.string di)).setCell ⟨w.heap.size, 9, none⟩ (.bool false)) (some w.heap.size)) := grown_set (grown_set (grown_set (grown_set (grown_set (grown_refl _ _) _) _) _) _) _
        have KN : Hid (YN w.heap.size (((((wv.setCell ⟨w.heap.size, 5, none⟩ (.int .i64 dh)).setCell ⟨w.heap.size, 6, none⟩ (.int .i64 dr)).setCell ⟨w.heap.size, 7, none⟩ (.int .i64 dds)).setCell ⟨w.heap.size, 8, none⟩ (.string di)).setCell ⟨w.heap.size, 9, none⟩ (.bool false)) za o) := HNv.out.set KG.out
        go_upto_region 17 with fail
        clear hwv hnb cX_0 cX_1 cX_2 cX_3 cX_4 cX_5 cX_6 cX_7 cX_8 cX_9 cX_10 zX
        generalize ((((((wv.setCell _ _).setCell _ _).setCell _ _).setCell _ _).setCell _ _) : World) = w1 at *
        have HX1 : Hid (Blk w1 w.heap.size [.int .i64 v, .int .i64 dh, .int .i64 dr, .int .i64 dds, .string di, .int .i64 dh, .int .i64 dr, .int .i64 dds, .string di, .bool false, .slice za o.length zc] 29) := KX
        have HR1 : Hid (Blk w1 (w.heap.size + 1) [.int .i64 0, .int .i64 0, .int .i64 0, .int .i64 0, .string ⟨#[]⟩, .int .i64 0, .int .i64 0, .int .i64 0, .string ⟨#[]⟩, .bool false, .slice none 0 0] 29) := KR
        have HN1 : Hid (YN w.heap.size w1 za o) := KN
        have HB1 : Hid (Below w.heap.size w w1) := KB
        clear KX KR KB KG KN HXv HRv HBv HNv
        go_wp2
        go_roundw
        case rel =>
          have R0 : ∃ (k0 : Nat) (z : Sg) (za : Option Addr) (zc : Nat), k0 ≤ ds.length ∧ Value.int .i64 ((k : Int) + 1) = .int .i64 k0 ∧ Hid (z = Z k0) ∧ Hid (Blk w1 w.heap.size (sL z (.slice za z.o.length zc)) 29) ∧ Hid (YN w.heap.size w1 za z.o) ∧ Hid ((za = none → zc = 0) ∧ z.o.length ≤ zc ∧ zc ≤ 9223372036854775807) ∧ Hid (SmS z) ∧ Hid (z.o.length ≤ 1000 + k0) ∧ Hid (Blk w1 (w.heap.size + 1) [.int .i64 0, .int .i64 0, .int .i64 0, .int .i64 0, .string ⟨#[]⟩, .int .i64 0, .int .i64 0, .int .i64 0, .string ⟨#[]⟩, .bool false, .slice none 0 0] 29) ∧ Hid (Below w.heap.size w w1) := ⟨k + 1, _, za, zc, by omega, by go_num, HZm.out.symm, HX1, HN1, ⟨fz, fl, fc⟩, HSn, HLn, HR1, HB1⟩
          first | exact R0 | ((repeat apply Exists.intro); exact ⟨R0, rfl⟩) | ((repeat apply Exists.intro); exact ⟨rfl, R0⟩)
        case measure => simp [intOf]; omega
    · have hltz : ¬ (k : Int) < (ds.length : Int) := by omega
      have hkn : k = ds.length := by omega
      have hE : E = z := by rw [HZk.out, hkn]; exact HZE.out.symm
      subst hE
      clear HZS HZk HZE HD0 HSD
      have kC := fun W (h : YO W za E.o) (h0 : za = none → zc = 0) (h1 : E.o.length ≤ 1048576) => copy_sg E za zc W h h0 h1 HSz.out.1 HSz.out.2.1 HSz.out.2.2
      have hlo : E.o.length ≤ 1048576 := by have := HLz.out; omega
      have fz := HF.out.1
      clear HSz HF HLz
      obtain ⟨v, ⟨dh, dr, dds, di⟩, ⟨mh, mr, ms, mi⟩, p, o⟩ := E
      unfold sL at HX
      unfold sV sQ at kC
      simp only at HX HN kC hlo
      have HNo : Hid (YO wr za o) := HN.out.o
      clear HN
      have cX_0 := HX.out.cell 0 rfl
      have cX_1 := HX.out.cell 1 rfl
      have cX_2 := HX.out.cell 2 rfl
      have cX_3 := HX.out.cell 3 rfl
      have cX_4 := HX.out.cell 4 rfl
      have cX_5 := HX.out.cell 5 rfl
      have cX_6 := HX.out.cell 6 rfl
      have cX_7 := HX.out.cell 7 rfl
      have cX_8 := HX.out.cell 8 rfl
      have cX_9 := HX.out.cell 9 rfl
      have cX_10 := HX.out.cell 10 rfl
      have hwX : w.heap.size + 1 < wr.heap.size := HR.out.lt
      go_wp2_with fail
      clear cX_0 cX_1 cX_2 cX_3 cX_4 cX_5 cX_6 cX_7 cX_8 cX_9 cX_10
      refine (kC _ HNo.out fz hlo).mono ?_
      rintro e w201 ⟨qa, qc, rfl, HQ, bb⟩
      have HX201 : Hid (Blk w201 w.heap.size [.int .i64 v, .int .i64 dh, .int .i64 dr, .int .i64 dds, .string di, .int .i64 mh, .int .i64 mr, .int .i64 ms, .string mi, .bool p, .slice za o.length zc] 29) := HX.out.below bb HX.out.lt
      have HR201 : Hid (Blk w201 (w.heap.size + 1) [.int .i64 0, .int .i64 0, .int .i64 0, .int .i64 0, .string ⟨#[]⟩, .int .i64 0, .int .i64 0, .int .i64 0, .string ⟨#[]⟩, .bool false, .slice none 0 0] 29) := HR.out.below bb HR.out.lt
      have HB201 : Hid (Below w.heap.size w w201) := HB.out.trans (bb.mono HB.out.size)
      clear HX HR HB
      clear bb kC HNo
      have cR_0 := HR201.out.cell 0 rfl
      have cR_1 := HR201.out.cell 1 rfl
      have cR_2 := HR201.out.cell 2 rfl
      have cR_3 := HR201.out.cell 3 rfl
      have cR_4 := HR201.out.cell 4 rfl
      have cR_5 := HR201.out.cell 5 rfl
      have cR_6 := HR201.out.cell 6 rfl
      have cR_7 := HR201.out.cell 7 rfl
      have cR_8 := HR201.out.cell 8 rfl
      have cR_9 := HR201.out.cell 9 rfl
      have cR_10 := HR201.out.cell 10 rfl
      have zR := fun j => HR201.out.frozen j
      have KX := (((((((((((HX201.out.other 0 (.int .i64 v) (show w.heap.size ≠ (w.heap.size + 1) by omega)).other 1 (.int .i64 dh) (show w.heap.size ≠ (w.heap.size + 1) by omega)).other 2 (.int .i64 dr) (show w.heap.size ≠ (w.heap.size + 1) by omega)).other 3 (.int .i64 dds) (show w.heap.size ≠ (w.heap.size + 1) by omega)).other 4 (.string di) (show w.heap.size ≠ (w.heap.size + 1) by omega)).other 5 (.int .i64 mh) (show w.heap.size ≠ (w.heap.size + 1) by omega)).other 6 (.int .i64 mr) (show w.heap.size ≠ (w.heap.size + 1) by omega)).other 7 (.int .i64 ms) (show w.heap.size ≠ (w.heap.size + 1) by omega)).other 8 (.string mi) (show w.heap.size ≠ (w.heap.size + 1) by omega)).other 9 (.bool p) (show w.heap.size ≠ (w.heap.size + 1) by omega)).other 10 (.slice qa o.length qc) (show w.heap.size ≠ (w.heap.size + 1) by omega))
      have KR := (((((((((((HR201.out.set 0 (.int .i64 v)).set 1 (.int .i64 dh)).set 2 (.int .i64 dr)).set 3 (.int .i64 dds)).set 4 (.string di)).set 5 (.int .i64 mh)).set 6 (.int .i64 mr)).set 7 (.int .i64 ms)).set 8 (.string mi)).set 9 (.bool p)).set 10 (.slice qa o.length qc))
      have KB := (((((((((((HB201.out.setCell (p := ⟨(w.heap.size + 1), 0, none⟩) (show w.heap.size ≤ (w.heap.size + 1) by omega) (.int .i64 v)).setCell (p := ⟨(w.heap.size + 1), 1, none⟩) (show w.heap.size ≤ (w.heap.size + 1) by omega) (.int .i64 dh)).setCell (p := ⟨(w.heap.size + 1), 2, none⟩) (show w.heap.size ≤ (w.heap.size + 1) by omega) (.int .i64 dr)).setCell (p := ⟨(w.heap.size + 1), 3, none⟩) (show w.heap.size ≤ (w.heap.size + 1) by omega) (.int .i64 dds)).setCell (p := ⟨(w.heap.size + 1), 4, none⟩) (show w.heap.size ≤ (w.heap.size + 1) by omega) (.string di)).setCell (p := ⟨(w.heap.size + 1), 5, none⟩) (show w.heap.size ≤ (w.heap.size + 1) by omega) (.int .i64 mh)).setCell (p := ⟨(w.heap.size + 1), 6, none⟩) (show w.heap.size ≤ (w.heap.size + 1) by omega) (.int .i64 mr)).setCell (p := ⟨(w.heap.size + 1), 7, none⟩) (show w.heap.size ≤ (w.heap.size + 1) by omega) (.int .i64 ms)).setCell (p := ⟨(w.heap.size + 1), 8, none⟩) (show w.heap.size ≤ (w.heap.size + 1) by omega) (.string mi)).setCell (p := ⟨(w.heap.size + 1), 9, none⟩) (show w.heap.size ≤ (w.heap.size + 1) by omega) (.bool p)).setCell (p := ⟨(w.heap.size + 1), 10, none⟩) (show w.heap.size ≤ (w.heap.size + 1) by omega) (.slice qa o.length qc))
      have KG : Hid (w201.grownBy (((((((((((w201.setCell ⟨(w.heap.size + 1), 0, none⟩ (.int .i64 v)).setCell ⟨(w.heap.size + 1), 1, none⟩ (.int .i64 dh)).setCell ⟨(w.heap.size + 1), 2, none⟩ (.int .i64 dr)).setCell ⟨(w.heap.size + 1), 3, none⟩ (.int .i64 dds)).setCell ⟨(w.heap.size + 1), 4, none⟩ (.string di)).setCell ⟨(w.heap.size + 1), 5, none⟩ (.int .i64 mh)).setCell ⟨(w.heap.size + 1), 6, none⟩ (.int .i64 mr)).setCell ⟨(w.heap.size + 1), 7, none⟩ (.int .i64 ms)).setCell ⟨(w.heap.size + 1), 8, none⟩ (.string mi)).setCell ⟨(w.heap.size + 1), 9, none⟩ (.bool p)).setCell ⟨(w.heap.size + 1), 10, none⟩ (.slice qa o.length qc)) (some (w.heap.size + 1))) := grown_set (grown_set (grown_set (grown_set (grown_set (grown_set (grown_set (grown_set (grown_set (grown_set (grown_set (grown_refl _ _) _) _) _) _) _) _) _) _) _) _) _
      have KQ : Hid (OwnY (((((((((((w201.setCell ⟨(w.heap.size + 1), 0, none⟩ (.int .i64 v)).setCell ⟨(w.heap.size + 1), 1, none⟩ (.int .i64 dh)).setCell ⟨(w.heap.size + 1), 2, none⟩ (.int .i64 dr)).setCell ⟨(w.heap.size + 1), 3, none⟩ (.int .i64 dds)).setCell ⟨(w.heap.size + 1), 4, none⟩ (.string di)).setCell ⟨(w.heap.size + 1), 5, none⟩ (.int .i64 mh)).setCell ⟨(w.heap.size + 1), 6, none⟩ (.int .i64 mr)).setCell ⟨(w.heap.size + 1), 7, none⟩ (.int .i64 ms)).setCell ⟨(w.heap.size + 1), 8, none⟩ (.string mi)).setCell ⟨(w.heap.size + 1), 9, none⟩ (.bool p)).setCell ⟨(w.heap.size + 1), 10, none⟩ (.slice qa o.length qc)) wr.heap.size (.slice qa o.length qc) o) := own_still HQ.out KG.out (fun j e => by injection e with e; omega)
      go_wp2_with fail
      clear cR_0 cR_1 cR_2 cR_3 cR_4 cR_5 cR_6 cR_7 cR_8 cR_9 cR_10 zR
      generalize ((((((((((((w201.setCell _ _).setCell _ _).setCell _ _).setCell _ _).setCell _ _).setCell _ _).setCell _ _).setCell _ _).setCell _ _).setCell _ _).setCell _ _) : World) = w202 at *
      have HX202 : Hid (Blk w202 w.heap.size [.int .i64 v, .int .i64 dh, .int .i64 dr, .int .i64 dds, .string di, .int .i64 mh, .int .i64 mr, .int .i64 ms, .string mi, .bool p, .slice za o.length zc] 29) := KX
      have HR202 : Hid (Blk w202 (w.heap.size + 1) [.int .i64 v, .int .i64 dh, .int .i64 dr, .int .i64 dds, .string di, .int .i64 mh, .int .i64 mr, .int .i64 ms, .string mi, .bool p, .slice qa o.length qc] 29) := KR
      have HQ202 : Hid (OwnY w202 wr.heap.size (.slice qa o.length qc) o) := KQ
      have HB202 : Hid (Below w.heap.size w w202) := KB
      clear KX KR KB KG KQ HX201 HR201 HB201 HQ
      have y0 := HR202.out.cell 0 rfl
      have y1 := HR202.out.cell 1 rfl
      have y2 := HR202.out.cell 2 rfl
      have y3 := HR202.out.cell 3 rfl
      have y4 := HR202.out.cell 4 rfl
      have y5 := HR202.out.cell 5 rfl
      have y6 := HR202.out.cell 6 rfl
      have y7 := HR202.out.cell 7 rfl
      have y8 := HR202.out.cell 8 rfl
      have y9 := HR202.out.cell 9 rfl
      have y10 := HR202.out.cell 10 rfl
      refine bodyPost_ret (v := .agg #[.int .i64 v, .int .i64 dh, .int .i64 dr, .int .i64 dds, .string di, .int .i64 mh, .int .i64 mr, .int .i64 ms, .string mi, .bool p, .slice qa o.length qc]) (by simp [results, Try.results38, go_sem, y0, y1, y2, y3, y4, y5, y6, y7, y8, y9, y10]) rfl ⟨_, _, rfl, own_less HQ202.out (by omega), HB202.out⟩
end Go.Proofs.Ytmjlpdmdpagggaa
