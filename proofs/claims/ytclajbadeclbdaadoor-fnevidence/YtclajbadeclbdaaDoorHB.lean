/- What spec.l12Vote, l12Evid and l12List draw, as far as the laws ask; old memory stands but for the cursor. Conditions: a code of at most 2 to the 20 bytes. What spec.l12Evid, l12List, DrawBlame and DrawEvidOk draw, as far as the laws ask; old memory stands but for the cursor. Conditions: a code of at most 2 to the 20 bytes. -/
import Derived.Test.YtclajbadeclbdaaDoorDv
import Derived.Test.YtclajbadeclbdaaDoorYr
import Derived.Test.YtclajbadeclbdaaDoorSg
import Derived.Test.YtclajbadeclbdaaDoorVg
import Derived.Deep.CutBlock
import Derived.Deep.DeepCutAuto
import Derived.Deep.RegionHeld3
import Derived.Test.YtclajbadeclbdaaDoorEk
import Derived.Deep.AppendLies
namespace Go.Proofs.YtclajbadeclbdaaDoor
open Go.RowKit
open Num
set_option linter.unusedVariables false
/-- What is drawn of a signed vote, as far as it is asked. -/
def DrY (y : Sv) : Prop := y.x.i.size ≤ 9 ∧ y.s.size ≤ 1003
/-- A vote that is being drawn: it lies in block b; the result's block c is as it was laid. -/
def YSt (w wx : World) (q B b c : Nat) (x : Vt) : Prop :=
  Blk wx b (tcs x).toList 30 ∧ x.i.size ≤ 9 ∧ DS wx q B ∧ w.grownBy wx (some q) ∧ Blk wx c [.int .i64 0, .int .i64 0, .int .i64 0, .string ⟨#[]⟩, .int .i64 0, .string ⟨#[]⟩] 32 ∧ w.heap.size ≤ b ∧ w.heap.size ≤ c ∧ b ≠ c ∧ q < w.heap.size ∧ B ≤ w.heap.size
theorem YSt.call {w wx wy : World} {q B b c : Nat} {x : Vt} (h : YSt w wx q B b c x) (hd : DS wy q B) (hg : wx.grownBy wy (some q)) : YSt w wy q B b c x := by
  obtain ⟨h1, h2, h3, h4, h5, h6, h7, h8, h9, h10⟩ := h
  exact ⟨h1.grown hg (by simp; omega), h2, hd, grown_trans h4 hg, h5.grown hg (by simp; omega), h6, h7, h8, h9, h10⟩
theorem YSt.below {w wx wy : World} {q B b c : Nat} {x : Vt} (h : YSt w wx q B b c x) (hb : Below wx.heap.size wx wy) : YSt w wy q B b c x := by
  obtain ⟨h1, h2, h3, h4, h5, h6, h7, h8, h9, h10⟩ := h
  have hs : w.heap.size ≤ wx.heap.size := h4.size
  exact ⟨h1.below hb h1.lt, h2, h3.below (hb.mono (by omega)), gr_below h4 (hb.mono hs), h5.below hb h5.lt, h6, h7, h8, h9, h10⟩
theorem YSt.set {w wx : World} {q B b c : Nat} {x : Vt} (h : YSt w wx q B b c x) (k : Nat) (u : Value) (y : Vt) (hy : (tcs x).toList.set k u = (tcs y).toList) (hr : y.i.size ≤ 9) : YSt w (wx.setCell ⟨b, k, none⟩ u) q B b c y := by
  obtain ⟨h1, h2, h3, h4, h5, h6, h7, h8, h9, h10⟩ := h
  have hs : w.heap.size ≤ wx.heap.size := h4.size
  exact ⟨hy ▸ h1.set k u, hr, h3.below ((Below.refl B wx).setCell (p := ⟨b, k, none⟩) (by show B ≤ b; omega) u), gr_below h4 ((Below.refl _ _).setCell (p := ⟨b, k, none⟩) h6 u), h5.other k u (fun e => h8 e.symm), h6, h7, h8, h9, h10⟩
set_option maxHeartbeats 6400000 in
set_option maxRecDepth 100000 in
theorem svote_d (q B : Nat) (w : World) (hd : DS w q B) (hB : B ≤ w.heap.size) :
    Calls Tryd.prog 47 #[.pointer (some ⟨q, 0, none⟩)] w fun e w' => ∃ y : Sv, e = .returned (yV y) ∧ Hid (DrY y) ∧ Hid (DS w' q B) ∧ Hid (w.grownBy w' (some q)) := by
  have hq := hd.lt'
  have HC0 : Hid (Blk (w.alloc (.cells [.int .i64 0, .int .i64 0, .int .i64 0, .string ⟨#[]⟩, .int .i64 0, .string ⟨#[]⟩].toArray 32)) w.heap.size [.int .i64 0, .int .i64 0, .int .i64 0, .string ⟨#[]⟩, .int .i64 0, .string ⟨#[]⟩] 32) := blk_new w _ _
  have HD0 : Hid (DS (w.alloc (.cells [.int .i64 0, .int .i64 0, .int .i64 0, .string ⟨#[]⟩, .int .i64 0, .string ⟨#[]⟩].toArray 32)) q B) := hd.below ((Below.refl _ _).alloc hB _)
  have HG0 : Hid (w.grownBy (w.alloc (.cells [.int .i64 0, .int .i64 0, .int .i64 0, .string ⟨#[]⟩, .int .i64 0, .string ⟨#[]⟩].toArray 32)) (some q)) := grown_alloc (grown_refl _ _) _
  have hs0 : B ≤ (w.alloc (.cells [.int .i64 0, .int .i64 0, .int .i64 0, .string ⟨#[]⟩, .int .i64 0, .string ⟨#[]⟩].toArray 32)).heap.size := by simp; omega
  clear hd
  go_enter Tryd.func47, Tryd.ntmps47
  go_wp2_with fail
  generalize w.alloc (Obj.cells #[.int .i64 0, .int .i64 0, .int .i64 0, .string ⟨#[]⟩, .int .i64 0, .string ⟨#[]⟩] 32) = w0 at *
  refine (vote_d q B w0 HD0.out hs0).mono ?_
  rintro e w1 ⟨x, rfl, HX, HD1, HG1⟩
  have HC1 : Hid (Blk w1 w.heap.size [.int .i64 0, .int .i64 0, .int .i64 0, .string ⟨#[]⟩, .int .i64 0, .string ⟨#[]⟩] 32) := HC0.out.grown HG1.out (by simp; omega)
  have HGa : Hid (w.grownBy w1 (some q)) := grown_trans HG0.out HG1.out
  have hxi : x.i.size ≤ 9 := HX.out.2.2.2.2
  have hc1 := HC1.out.lt
  have HS2 : Hid (YSt w (w1.alloc (.cells (tcs x).toList.toArray 30)) q B w1.heap.size w.heap.size x) :=
    ⟨blk_new w1 _ _, hxi, HD1.out.below ((Below.refl _ _).alloc (by omega) _), grown_trans HGa.out (grown_alloc (grown_refl _ _) _), HC1.out.alloc _, by omega, Nat.le_refl _, by omega, hq, hB⟩
  clear HC0 HD0 HG0 HD1 HG1 HX HC1 HGa hs0 hc1 hxi
  obtain ⟨h, r, s, i, v⟩ := x
  unfold tV
  simp only
  unfold tcs at HS2
  simp only at HS2
  go_wp2_with fail
  generalize w1.alloc (Obj.cells #[Value.int .i64 h, Value.int .i64 r, Value.int .i64 s, Value.string i, Value.int .i64 v] 30) = w2 at *
  generalize w1.heap.size = b at *
  refine (once_d q B 2 _ HS2.out.2.2.1).mono ?_
  rintro e w3 ⟨t, rfl, HD3, HG3⟩
  have HS3 : Hid (YSt w w3 q B b w.heap.size ⟨h, r, s, i, v⟩) := HS2.out.call HD3.out HG3.out
  clear HS2 HD3 HG3
  go_upto_if 8 with fail
  go_cut [] (fun wx => ∃ x : Vt, Hid (YSt w wx q B b w.heap.size x))
  case first =>
    rcases t with _ | _
    · go_wp2_with fail
      go_meet
      exact ⟨_, HS3⟩
    · go_wp2_with fail
      refine (below_d q B 2 _ HS3.out.2.2.1 (by omega)).mono ?_
      rintro e w4 ⟨y0, rfl, l0, u0, HD4, HG4⟩
      have HS4 : Hid (YSt w w4 q B b w.heap.size ⟨h, r, s, i, v⟩) := HS3.out.call HD4.out HG4.out
      clear HS3 HD4 HG4
      go_wp2_with fail
      refine (below_d q B 2 _ HS4.out.2.2.1 (by omega)).mono ?_
      rintro e w5 ⟨y1, rfl, l1, u1, HD5, HG5⟩
      have HS5 : Hid (YSt w w5 q B b w.heap.size ⟨h, r, s, i, v⟩) := HS4.out.call HD5.out HG5.out
      clear HS4 HD5 HG5
      go_wp2_with fail
      refine (below_d q B 3 _ HS5.out.2.2.1 (by omega)).mono ?_
      rintro e w6 ⟨y2, rfl, l2, u2, HD6, HG6⟩
      have HS6 : Hid (YSt w w6 q B b w.heap.size ⟨h, r, s, i, v⟩) := HS5.out.call HD6.out HG6.out
      clear HS5 HD6 HG6
      go_wp2_with fail
      refine (text_d q B 1 _ HS6.out.2.2.1 (by omega) (by omega)).mono ?_
      rintro e w7 ⟨t7, rfl, HT7, HD7, HG7⟩
      have HS7 : Hid (YSt w w7 q B b w.heap.size ⟨h, r, s, i, v⟩) := HS6.out.call HD7.out HG7.out
      clear HS6 HD7 HG7
      have hts : t7.size ≤ 1099511627776 := by have := HT7.out; omega
      have kS := fun W => spec_short t7 W hts
      have hss := size_shortB t7
      generalize shortB t7 = T at *
      clear hts HT7
      go_wp2_with fail
      refine (kS _).mono ?_
      rintro e w8 ⟨rfl, b8⟩
      have HS8 : Hid (YSt w w8 q B b w.heap.size ⟨h, r, s, i, v⟩) := HS7.out.below b8
      clear HS7 b8 kS
      have HS9 : Hid (YSt w (((((w8.setCell ⟨b, 0, none⟩ (.int .i64 1)).setCell ⟨b, 1, none⟩ (.int .i64 y0)).setCell ⟨b, 2, none⟩ (.int .i64 (1 + y1))).setCell ⟨b, 3, none⟩ (.string T)).setCell ⟨b, 4, none⟩ (.int .i64 (1 + y2))) q B b w.heap.size ⟨1, y0, 1 + y1, T, 1 + y2⟩) :=
        ((((HS8.out.set 0 (.int .i64 1) ⟨1, r, s, i, v⟩ rfl HS8.out.2.1).set 1 (.int .i64 y0) ⟨1, y0, s, i, v⟩ rfl HS8.out.2.1).set 2 (.int .i64 (1 + y1)) ⟨1, y0, 1 + y1, i, v⟩ rfl HS8.out.2.1).set 3 (.string T) ⟨1, y0, 1 + y1, T, v⟩ rfl (by show T.size ≤ 9; omega)).set 4 (.int .i64 (1 + y2)) ⟨1, y0, 1 + y1, T, 1 + y2⟩ rfl (by show T.size ≤ 9; omega)
      have p0 := HS8.out.1.cell 0 rfl
      have p1 := HS8.out.1.cell 1 rfl
      have p2 := HS8.out.1.cell 2 rfl
      have p3 := HS8.out.1.cell 3 rfl
      have p4 := HS8.out.1.cell 4 rfl
      have pf := fun j => HS8.out.1.frozen j
      clear HS8
      go_wp2_with fail
      go_meet
      exact ⟨_, HS9⟩
  case rest =>
  obtain ⟨x, HS4⟩ := hcut
  rename World => w4
  clear HS3
  have kD := fun W => spec_dig x W
  have kG := fun W => spec_sgn x.v (dig x) W (by have := dig_size x; omega)
  have hgz := sgn_size x.v (dig x)
  generalize sgn x.v (dig x) = G at *
  generalize dig x = D at *
  clear h r s i v
  obtain ⟨h, r, s, i, v⟩ := x
  unfold tV at kD
  simp only at kD kG
  go_wp2_with fail
  have hne := bel_some w4
  have c0 := fun p : Bel w4 => p.cell (HS4.out.1.cell 0 rfl)
  have c1 := fun p : Bel w4 => p.cell (HS4.out.1.cell 1 rfl)
  have c2 := fun p : Bel w4 => p.cell (HS4.out.1.cell 2 rfl)
  have c3 := fun p : Bel w4 => p.cell (HS4.out.1.cell 3 rfl)
  have c4 := fun p : Bel w4 => p.cell (HS4.out.1.cell 4 rfl)
  refine wp_region_below (by kernel_rfl) (by kernel_rfl) ?_
  repeat (go_big_quiet_step (first | (go_at_call 55; exact bel_of (kD _)) | (go_at_call 54; exact bel_of (kG _))))
  refine wpQuiet_nil ?_
  intro _ hw'
  obtain ⟨pq, hw''⟩ := hw'
  subst hw''
  have HS5 : Hid (YSt w pq.W q B b w.heap.size ⟨h, r, s, i, v⟩) := HS4.out.below pq.h
  generalize pq.W = w5 at *
  clear pq c0 c1 c2 c3 c4 hne HS4 kD kG
  go_wp2_with fail
  refine (once_d q B 8 _ HS5.out.2.2.1).mono ?_
  rintro e w6 ⟨t, rfl, HD6, HG6⟩
  have HS6 : Hid (YSt w w6 q B b w.heap.size ⟨h, r, s, i, v⟩) := HS5.out.call HD6.out HG6.out
  clear HS5 HD6 HG6
  go_upto_if 27 with fail
  go_cut [4] (fun sv wx => ∃ S : ByteArray, sv = .string S ∧ Hid (S.size ≤ 1003) ∧ Hid (YSt w wx q B b w.heap.size ⟨h, r, s, i, v⟩))
  case first =>
    rcases t with _ | _
    · have HGz : Hid (G.size ≤ 1003) := by show _ ≤ _; omega
      go_wp2_with fail
      go_meet
      exact ⟨_, rfl, HGz, HS6⟩
    · go_wp2_with fail
      refine (spoil_d q B G _ HS6.out.2.2.1 (by omega)).mono ?_
      rintro e w7 ⟨S, rfl, HSz, HD7, HG7⟩
      have HS7 : Hid (YSt w w7 q B b w.heap.size ⟨h, r, s, i, v⟩) := HS6.out.call HD7.out HG7.out
      clear HS6 HD7 HG7
      go_wp2_with fail
      go_meet
      exact ⟨_, rfl, HSz, HS7⟩
  case rest =>
  obtain ⟨g, hsv, HGs, HS7⟩ := hcut
  rename World => w7
  subst hsv
  clear HS6
  have HDd : Hid (DS w7 q B) := HS7.out.2.2.1
  have HGg : Hid (w.grownBy w7 (some q)) := HS7.out.2.2.2.1
  have HCc : Hid (Blk w7 w.heap.size [.int .i64 0, .int .i64 0, .int .i64 0, .string ⟨#[]⟩, .int .i64 0, .string ⟨#[]⟩] 32) := HS7.out.2.2.2.2.1
  have HBv : Hid (Blk w7 b (tcs ⟨h, r, s, i, v⟩).toList 30) := HS7.out.1
  have hBw : B ≤ w.heap.size := hB
  have HDR : Hid (DrY ⟨⟨h, r, s, i, v⟩, g⟩) := ⟨HS7.out.2.1, HGs.out⟩
  clear HS7 HGs
  have x0 := HBv.out.cell 0 rfl
  have x1 := HBv.out.cell 1 rfl
  have x2 := HBv.out.cell 2 rfl
  have x3 := HBv.out.cell 3 rfl
  have x4 := HBv.out.cell 4 rfl
  have p0 := HCc.out.cell 0 rfl
  have p1 := HCc.out.cell 1 rfl
  have p2 := HCc.out.cell 2 rfl
  have p3 := HCc.out.cell 3 rfl
  have p4 := HCc.out.cell 4 rfl
  have p5 := HCc.out.cell 5 rfl
  have pf := fun j => HCc.out.frozen j
  have HR5 := ((((((HCc.out.set 0 (.int .i64 h)).set 1 (.int .i64 r)).set 2 (.int .i64 s)).set 3 (.string i)).set 4 (.int .i64 v)).set 5 (.string g))
  have HD9 : DS _ q B := HDd.out.below (((((((Below.refl B w7).setCell (p := ⟨w.heap.size, 0, none⟩) hBw (.int .i64 h)).setCell (p := ⟨w.heap.size, 1, none⟩) hBw (.int .i64 r)).setCell (p := ⟨w.heap.size, 2, none⟩) hBw (.int .i64 s)).setCell (p := ⟨w.heap.size, 3, none⟩) hBw (.string i)).setCell (p := ⟨w.heap.size, 4, none⟩) hBw (.int .i64 v)).setCell (p := ⟨w.heap.size, 5, none⟩) hBw (.string g))
  have HG9 := gr_below HGg.out (((((((Below.refl w.heap.size w7).setCell (p := ⟨w.heap.size, 0, none⟩) (Nat.le_refl _) (.int .i64 h)).setCell (p := ⟨w.heap.size, 1, none⟩) (Nat.le_refl _) (.int .i64 r)).setCell (p := ⟨w.heap.size, 2, none⟩) (Nat.le_refl _) (.int .i64 s)).setCell (p := ⟨w.heap.size, 3, none⟩) (Nat.le_refl _) (.string i)).setCell (p := ⟨w.heap.size, 4, none⟩) (Nat.le_refl _) (.int .i64 v)).setCell (p := ⟨w.heap.size, 5, none⟩) (Nat.le_refl _) (.string g))
  go_wp2
  clear p0 p1 p2 p3 p4 p5 pf
  have y0 := HR5.cell 0 rfl
  have y1 := HR5.cell 1 rfl
  have y2 := HR5.cell 2 rfl
  have y3 := HR5.cell 3 rfl
  have y4 := HR5.cell 4 rfl
  have y5 := HR5.cell 5 rfl
  refine bodyPost_ret (v := .agg #[.int .i64 h, .int .i64 r, .int .i64 s, .string i, .int .i64 v, .string g]) ?_ rfl ⟨⟨⟨h, r, s, i, v⟩, g⟩, rfl, HDR, HD9, HG9⟩
  generalize (((((((w7.setCell _ _).setCell _ _).setCell _ _).setCell _ _).setCell _ _).setCell _ _) : World) = W at *
  clear HR5 HD9 HG9
  simp [results, Tryd.results47, go_sem, y0, y1, y2, y3, y4, y5]
end Go.Proofs.YtclajbadeclbdaaDoor
namespace Go.Proofs.YtclajbadeclbdaaDoor
open Go.RowKit
open Num
set_option linter.unusedVariables false
/-- Evidence that is being drawn: its two votes lie in blocks m and n; the result's block c is as it was laid. -/
def ESt (w wx : World) (q B m n c : Nat) (a b : Sv) : Prop :=
  Blk wx m (yLs a) 32 ∧ Blk wx n (yLs b) 32 ∧ DrY a ∧ DrY b ∧ DS wx q B ∧ w.grownBy wx (some q) ∧ Blk wx c [.int .i64 0, .int .i64 0, .int .i64 0, .string ⟨#[]⟩, .int .i64 0, .string ⟨#[]⟩, .int .i64 0, .int .i64 0, .int .i64 0, .string ⟨#[]⟩, .int .i64 0, .string ⟨#[]⟩] 34 ∧ w.heap.size ≤ m ∧ w.heap.size ≤ n ∧ w.heap.size ≤ c ∧ m ≠ n ∧ n ≠ c ∧ q < w.heap.size ∧ B ≤ w.heap.size
theorem ESt.call {w wx wy : World} {q B m n c : Nat} {a b : Sv} (h : ESt w wx q B m n c a b) (hd : DS wy q B) (hg : wx.grownBy wy (some q)) : ESt w wy q B m n c a b := by
  obtain ⟨h1, h2, h3, h4, h5, h6, h7, h8, h9, h10, h11, h12, h13, h14⟩ := h
  exact ⟨h1.grown hg (by simp; omega), h2.grown hg (by simp; omega), h3, h4, hd, grown_trans h6 hg, h7.grown hg (by simp; omega), h8, h9, h10, h11, h12, h13, h14⟩
theorem ESt.below {w wx wy : World} {q B m n c : Nat} {a b : Sv} (h : ESt w wx q B m n c a b) (hb : Below wx.heap.size wx wy) : ESt w wy q B m n c a b := by
  obtain ⟨h1, h2, h3, h4, h5, h6, h7, h8, h9, h10, h11, h12, h13, h14⟩ := h
  have hs : w.heap.size ≤ wx.heap.size := h6.size
  exact ⟨h1.below hb h1.lt, h2.below hb h2.lt, h3, h4, h5.below (hb.mono (by omega)), gr_below h6 (hb.mono hs), h7.below hb h7.lt, h8, h9, h10, h11, h12, h13, h14⟩
theorem ESt.set {w wx : World} {q B m n c : Nat} {a b : Sv} (h : ESt w wx q B m n c a b) (k : Nat) (u : Value) (y : Sv) (hy : (yLs b).set k u = yLs y) (hr : DrY y) : ESt w (wx.setCell ⟨n, k, none⟩ u) q B m n c a y := by
  obtain ⟨h1, h2, h3, h4, h5, h6, h7, h8, h9, h10, h11, h12, h13, h14⟩ := h
  exact ⟨h1.other k u h11, hy ▸ h2.set k u, h3, hr, h5.below ((Below.refl B wx).setCell (p := ⟨n, k, none⟩) (by show B ≤ n; omega) u), gr_below h6 ((Below.refl _ _).setCell (p := ⟨n, k, none⟩) h9 u), h7.other k u (fun e => h12 e.symm), h8, h9, h10, h11, h12, h13, h14⟩
set_option maxHeartbeats 6400000 in
set_option maxRecDepth 100000 in
theorem evid_d (q B : Nat) (w : World) (hd : DS w q B) (hB : B ≤ w.heap.size) :
    Calls Tryd.prog 39 #[.pointer (some ⟨q, 0, none⟩)] w fun e w' => ∃ a b : Sv, e = .returned (eV a b) ∧ Hid (DrY a ∧ DrY b) ∧ Hid (DS w' q B) ∧ Hid (w.grownBy w' (some q)) := by
  have hq := hd.lt'
  have HC0 : Hid (Blk (w.alloc (.cells [.int .i64 0, .int .i64 0, .int .i64 0, .string ⟨#[]⟩, .int .i64 0, .string ⟨#[]⟩, .int .i64 0, .int .i64 0, .int .i64 0, .string ⟨#[]⟩, .int .i64 0, .string ⟨#[]⟩].toArray 34)) w.heap.size [.int .i64 0, .int .i64 0, .int .i64 0, .string ⟨#[]⟩, .int .i64 0, .string ⟨#[]⟩, .int .i64 0, .int .i64 0, .int .i64 0, .string ⟨#[]⟩, .int .i64 0, .string ⟨#[]⟩] 34) := blk_new w _ _
  have HD0 : Hid (DS (w.alloc (.cells [.int .i64 0, .int .i64 0, .int .i64 0, .string ⟨#[]⟩, .int .i64 0, .string ⟨#[]⟩, .int .i64 0, .int .i64 0, .int .i64 0, .string ⟨#[]⟩, .int .i64 0, .string ⟨#[]⟩].toArray 34)) q B) := hd.below ((Below.refl _ _).alloc hB _)
  have HG0 : Hid (w.grownBy (w.alloc (.cells [.int .i64 0, .int .i64 0, .int .i64 0, .string ⟨#[]⟩, .int .i64 0, .string ⟨#[]⟩, .int .i64 0, .int .i64 0, .int .i64 0, .string ⟨#[]⟩, .int .i64 0, .string ⟨#[]⟩].toArray 34)) (some q)) := grown_alloc (grown_refl _ _) _
  have hs0 : B ≤ (w.alloc (.cells [.int .i64 0, .int .i64 0, .int .i64 0, .string ⟨#[]⟩, .int .i64 0, .string ⟨#[]⟩, .int .i64 0, .int .i64 0, .int .i64 0, .string ⟨#[]⟩, .int .i64 0, .string ⟨#[]⟩].toArray 34)).heap.size := by simp; omega
  clear hd
  go_enter Tryd.func39, Tryd.ntmps39
  go_wp2_with fail
  generalize w.alloc (Obj.cells #[.int .i64 0, .int .i64 0, .int .i64 0, .string ⟨#[]⟩, .int .i64 0, .string ⟨#[]⟩, .int .i64 0, .int .i64 0, .int .i64 0, .string ⟨#[]⟩, .int .i64 0, .string ⟨#[]⟩] 34) = w0 at *
  refine (svote_d q B w0 HD0.out hs0).mono ?_
  rintro e w1 ⟨x, rfl, HX, HD1, HG1⟩
  have HC1 : Hid (Blk w1 w.heap.size [.int .i64 0, .int .i64 0, .int .i64 0, .string ⟨#[]⟩, .int .i64 0, .string ⟨#[]⟩, .int .i64 0, .int .i64 0, .int .i64 0, .string ⟨#[]⟩, .int .i64 0, .string ⟨#[]⟩] 34) := HC0.out.grown HG1.out (by simp; omega)
  have HGa : Hid (w.grownBy w1 (some q)) := grown_trans HG0.out HG1.out
  have hc1 := HC1.out.lt
  obtain ⟨wa, hwa⟩ : ∃ W, w1.alloc (.cells (yLs x).toArray 32) = W := ⟨_, rfl⟩
  obtain ⟨wb, hwb⟩ : ∃ W, wa.alloc (.cells (yLs x).toArray 32) = W := ⟨_, rfl⟩
  have hsa : wa.heap.size = w1.heap.size + 1 := by rw [← hwa]; simp
  have HS2 : Hid (ESt w wb q B w1.heap.size wa.heap.size w.heap.size x x) := by
    have h1 : Blk wa w1.heap.size (yLs x) 32 := by rw [← hwa]; exact blk_new w1 _ _
    have h2 : Blk wa w.heap.size [.int .i64 0, .int .i64 0, .int .i64 0, .string ⟨#[]⟩, .int .i64 0, .string ⟨#[]⟩, .int .i64 0, .int .i64 0, .int .i64 0, .string ⟨#[]⟩, .int .i64 0, .string ⟨#[]⟩] 34 := by rw [← hwa]; exact HC1.out.alloc _
    have h3 : DS wa q B := by rw [← hwa]; exact HD1.out.below ((Below.refl _ _).alloc (by omega) _)
    have h4 : w.grownBy wa (some q) := by rw [← hwa]; exact grown_trans HGa.out (grown_alloc (grown_refl _ _) _)
    rw [← hwb]
    exact ⟨h1.alloc _, blk_new wa _ _, HX.out, HX.out, h3.below ((Below.refl _ _).alloc (by omega) _), grown_trans h4 (grown_alloc (grown_refl _ _) _), h2.alloc _, by omega, by omega, Nat.le_refl _, by omega, by omega, hq, hB⟩
  have HXa : Hid (Blk wa w1.heap.size (yLs x) 32) := by rw [← hwa]; exact blk_new w1 _ _
  clear HC0 HD0 HG0 HD1 HG1 HX HC1 HGa hs0
  obtain ⟨⟨h, r, s, i, v⟩, g⟩ := x
  unfold yV
  unfold yLs at HS2 hwa hwb HXa
  simp only at HS2 hwa hwb HXa ⊢
  have x0 := HXa.out.cell 0 rfl
  have x1 := HXa.out.cell 1 rfl
  have x2 := HXa.out.cell 2 rfl
  have x3 := HXa.out.cell 3 rfl
  have x4 := HXa.out.cell 4 rfl
  have x5 := HXa.out.cell 5 rfl
  go_wp2_with fail
  clear x0 x1 x2 x3 x4 x5 hwa hwb HXa
  rw [hsa] at HS2
  clear hsa
  generalize w1.heap.size = m at *
  generalize m + 1 = n at *
  refine (text_d q B 2 _ HS2.out.2.2.2.2.1 (by omega) (by omega)).mono ?_
  rintro e w3 ⟨t3, rfl, HT3, HD3, HG3⟩
  have HS3 : Hid (ESt w w3 q B m n w.heap.size ⟨⟨h, r, s, i, v⟩, g⟩ ⟨⟨h, r, s, i, v⟩, g⟩) := HS2.out.call HD3.out HG3.out
  clear HS2 HD3 HG3
  have hts : t3.size ≤ 1099511627776 := by have := HT3.out; omega
  have kS := fun W => spec_short t3 W hts
  have hss := size_shortB t3
  generalize shortB t3 = T at *
  clear hts HT3
  go_wp2_with fail
  refine (kS _).mono ?_
  rintro e w4 ⟨rfl, b4⟩
  have HS4 : Hid (ESt w w4 q B m n w.heap.size ⟨⟨h, r, s, i, v⟩, g⟩ ⟨⟨h, r, s, i, v⟩, g⟩) := HS3.out.below b4
  clear HS3 b4 kS
  have HT9 : Hid (DrY ⟨⟨h, r, s, T, v⟩, g⟩) := ⟨by show T.size ≤ 9; omega, HS4.out.2.2.1.2⟩
  have HS5 : Hid (ESt w (w4.setCell ⟨n, 3, none⟩ (.string T)) q B m n w.heap.size ⟨⟨h, r, s, i, v⟩, g⟩ ⟨⟨h, r, s, T, v⟩, g⟩) := HS4.out.set 3 (.string T) ⟨⟨h, r, s, T, v⟩, g⟩ rfl HT9.out
  have p3 := HS4.out.2.1.cell 3 rfl
  have pf := fun j => HS4.out.2.1.frozen j
  clear HS4
  go_upto_region 4 with fail
  clear p3 pf
  generalize w4.setCell ⟨n, 3, none⟩ (.string T) = w5 at *
  have kD := fun W => spec_dig ⟨h, r, s, T, v⟩ W
  have kG := fun W => spec_sgn v (dig ⟨h, r, s, T, v⟩) W (by have := dig_size ⟨h, r, s, T, v⟩; omega)
  have hgz := sgn_size v (dig ⟨h, r, s, T, v⟩)
  generalize sgn v (dig ⟨h, r, s, T, v⟩) = G at *
  generalize dig ⟨h, r, s, T, v⟩ = D at *
  unfold tV at kD
  simp only at kD kG
  have HGd : Hid (DrY ⟨⟨h, r, s, T, v⟩, G⟩) := ⟨HT9.out.1, by show G.size ≤ 1003; omega⟩
  have HSd : Hid (ESt w w5.drew q B m n w.heap.size ⟨⟨h, r, s, i, v⟩, g⟩ ⟨⟨h, r, s, T, v⟩, g⟩) := HS5.out.below (Below.refl _ _).drew
  have HYS : Hid (∀ W y, y.x = (⟨h, r, s, T, v⟩ : Vt) → Blk W n (yLs y) 32 → (fun W : World => (W.cell? ⟨n, 0, none⟩ = some (Value.int .i64 h) ∧ W.cell? ⟨n, 1, none⟩ = some (Value.int .i64 r) ∧ W.cell? ⟨n, 2, none⟩ = some (Value.int .i64 s) ∧ W.cell? ⟨n, 3, none⟩ = some (Value.string T) ∧ W.cell? ⟨n, 4, none⟩ = some (Value.int .i64 v))) W) := fun W y e H => by obtain ⟨yx, yg⟩ := y; simp only at e; subst e; exact ⟨H.cell 0 rfl, H.cell 1 rfl, H.cell 2 rfl, H.cell 3 rfl, H.cell 4 rfl⟩
  clear HS5
  go_wp2_with fail
  refine wp_region_held_drew (S := (fun W : World => (W.cell? ⟨n, 0, none⟩ = some (Value.int .i64 h) ∧ W.cell? ⟨n, 1, none⟩ = some (Value.int .i64 r) ∧ W.cell? ⟨n, 2, none⟩ = some (Value.int .i64 s) ∧ W.cell? ⟨n, 3, none⟩ = some (Value.string T) ∧ W.cell? ⟨n, 4, none⟩ = some (Value.int .i64 v)))) (by kernel_rfl) ?_ (fun hHeld => ?_)
  · exact HYS.out _ _ rfl HSd.out.2.1
  generalize w5.drew = wd at *
  refine wpAnyH_take (i := 0) (oi := { dst := some 13, op := Go.Op.fieldAddr 32 (Go.Operand.tmp 4) 0, type := 0, pos := "l12_evid.go:60", after := #[], guard := none }) (v := ?_) rfl (by kernel_rfl) (by kernel_rfl) (by kernel_rfl) (fun _ _ _ h => h) (Or.inl ⟨by rfl, ?_⟩) hHeld ?_
  rotate_left
  · intro w hSw
    try dsimp only at hSw
    go_simp
    try (with_reducible rfl)
  simp only [Act.put, List.setIfInBounds_toArray, List.set_cons_zero, List.set_cons_succ]
  refine wpAnyH_take (i := 1) (oi := { dst := some 14, op := Go.Op.fieldAddr 30 (Go.Operand.tmp 13) 4, type := 0, pos := "l12_evid.go:60", after := #[{ on := 0, ground := Go.Ground.data }], guard := none }) (v := ?_) rfl (by kernel_rfl) (by kernel_rfl) (by kernel_rfl) (fun _ _ _ h => h) (Or.inl ⟨by rfl, ?_⟩) hHeld ?_
  rotate_left
  · intro w hSw
    try dsimp only at hSw
    go_simp
    try (with_reducible rfl)
  simp only [Act.put, List.setIfInBounds_toArray, List.set_cons_zero, List.set_cons_succ]
  refine wpAnyH_take (i := 2) (oi := { dst := some 15, op := Go.Op.load 3 (Go.Operand.tmp 14), type := 3, pos := "l12_evid.go:60", after := #[{ on := 1, ground := Go.Ground.data }], guard := none }) (v := ?_) rfl (by kernel_rfl) (by kernel_rfl) (by kernel_rfl) (fun _ _ _ h => h) (Or.inl ⟨by rfl, ?_⟩) hHeld ?_
  rotate_left
  · intro w hSw
    try dsimp only at hSw
    go_simp
    try (with_reducible rfl)
  simp only [Act.put, List.setIfInBounds_toArray, List.set_cons_zero, List.set_cons_succ]
  refine wpAnyH_take (i := 3) (oi := { dst := some 16, op := Go.Op.fieldAddr 32 (Go.Operand.tmp 4) 0, type := 0, pos := "l12_evid.go:60", after := #[], guard := none }) (v := ?_) rfl (by kernel_rfl) (by kernel_rfl) (by kernel_rfl) (fun _ _ _ h => h) (Or.inl ⟨by rfl, ?_⟩) hHeld ?_
  rotate_left
  · intro w hSw
    try dsimp only at hSw
    go_simp
    try (with_reducible rfl)
  simp only [Act.put, List.setIfInBounds_toArray, List.set_cons_zero, List.set_cons_succ]
  refine wpAnyH_take (i := 4) (oi := { dst := some 17, op := Go.Op.load 30 (Go.Operand.tmp 16), type := 30, pos := "l12_evid.go:60", after := #[{ on := 3, ground := Go.Ground.data }], guard := none }) (v := ?_) rfl (by kernel_rfl) (by kernel_rfl) (by kernel_rfl) (fun _ _ _ h => h) (Or.inl ⟨by rfl, ?_⟩) hHeld ?_
  rotate_left
  · intro w hSw
    try dsimp only at hSw
    go_simp
    try (with_reducible rfl)
  simp only [Act.put, List.setIfInBounds_toArray, List.set_cons_zero, List.set_cons_succ]
  refine wpAnyH_ready (rs := [5]) (by kernel_rfl) (by decide) ?_
  refine AllReadyH.cons (o := { dst := some 18, op := Go.Op.call { callee := Go.Callee.value (Go.Operand.func 55), args := #[Go.Operand.tmp 17], argTypes := #[30] }, type := 9, pos := "l12_evid.go:60", after := #[{ on := 4, ground := Go.Ground.data }], guard := none }) rfl (fun K hK => ?_) AllReadyH.nil
  go_simp
  refine (kD _).mono ?_
  rintro ee q1 ⟨rfl, d1⟩
  have HQ1 : Hid (ESt w q1 q B m n w.heap.size ⟨⟨h, r, s, i, v⟩, g⟩ ⟨⟨h, r, s, T, v⟩, g⟩) := HSd.out.below d1
  refine hK.out _ _ (HYS.out _ _ rfl HQ1.out.2.1) (fun hHeld => ?_)
  clear hK K
  try simp only [Act.put, List.setIfInBounds_toArray, List.set_cons_zero, List.set_cons_succ]
  refine wpAnyH_ready (rs := [6]) (by kernel_rfl) (by decide) ?_
  refine AllReadyH.cons (o := { dst := some 19, op := Go.Op.call { callee := Go.Callee.value (Go.Operand.func 54), args := #[Go.Operand.tmp 15, Go.Operand.tmp 18], argTypes := #[3, 9] }, type := 9, pos := "l12_evid.go:60", after := #[{ on := 2, ground := Go.Ground.data }, { on := 5, ground := Go.Ground.data }, { on := 5, ground := Go.Ground.chain }], guard := none }) rfl (fun K hK => ?_) AllReadyH.nil
  go_simp
  refine (kG _).mono ?_
  rintro ee q2 ⟨rfl, d2⟩
  have HQ2 : Hid (ESt w q2 q B m n w.heap.size ⟨⟨h, r, s, i, v⟩, g⟩ ⟨⟨h, r, s, T, v⟩, g⟩) := HQ1.out.below d2
  refine hK.out _ _ (HYS.out _ _ rfl HQ2.out.2.1) (fun hHeld => ?_)
  clear hK K
  try simp only [Act.put, List.setIfInBounds_toArray, List.set_cons_zero, List.set_cons_succ]
  refine wpAnyH_take (i := 7) (oi := { dst := some 20, op := Go.Op.fieldAddr 32 (Go.Operand.tmp 4) 1, type := 0, pos := "l12_evid.go:60", after := #[{ on := 0, ground := Go.Ground.phase }, { on := 1, ground := Go.Ground.phase }, { on := 2, ground := Go.Ground.phase }, { on := 3, ground := Go.Ground.phase }, { on := 4, ground := Go.Ground.phase }, { on := 5, ground := Go.Ground.phase }, { on := 6, ground := Go.Ground.phase }], guard := none }) (v := ?_) rfl (by kernel_rfl) (by kernel_rfl) (by kernel_rfl) (fun _ _ _ h => h) (Or.inl ⟨by rfl, ?_⟩) hHeld ?_
  rotate_left
  · intro w hSw
    try dsimp only at hSw
    go_simp
    try (with_reducible rfl)
  simp only [Act.put, List.setIfInBounds_toArray, List.set_cons_zero, List.set_cons_succ]
  refine wpAnyH_ready (rs := [8]) (by kernel_rfl) (by decide) ?_
  refine AllReadyH.cons (o := { dst := none, op := Go.Op.store 9 (Go.Operand.tmp 20) (Go.Operand.tmp 19), type := 0, pos := "l12_evid.go:60", after := #[{ on := 7, ground := Go.Ground.data }, { on := 6, ground := Go.Ground.data }, { on := 6, ground := Go.Ground.chain }, { on := 0, ground := Go.Ground.phase }, { on := 1, ground := Go.Ground.phase }, { on := 2, ground := Go.Ground.phase }, { on := 3, ground := Go.Ground.phase }, { on := 4, ground := Go.Ground.phase }, { on := 5, ground := Go.Ground.phase }, { on := 6, ground := Go.Ground.phase }], guard := none }) rfl (fun K hK => ?_) AllReadyH.nil
  have p5 := HQ2.out.2.1.cell 5 rfl
  have pf := fun j => HQ2.out.2.1.frozen j
  have HS9 := HQ2.out.set 5 (.string G) ⟨⟨h, r, s, T, v⟩, G⟩ rfl HGd.out
  go_simp
  refine hK.out _ _ (HYS.out _ _ rfl HS9.2.1) (fun hHeld => ?_)
  clear hK K
  try simp only [Act.put, List.setIfInBounds_toArray, List.set_cons_zero, List.set_cons_succ]
  refine wpAnyH_done (by kernel_rfl) ?_ _
  skip
  go_wp2_with fail
  generalize (q2.setCell _ _ : World) = w6 at *
  have HS6 : Hid (ESt w w6 q B m n w.heap.size ⟨⟨h, r, s, i, v⟩, g⟩ ⟨⟨h, r, s, T, v⟩, G⟩) := HS9
  clear HS9 hHeld
  refine (once_d q B 4 _ HS6.out.2.2.2.2.1).mono ?_
  rintro e w7 ⟨t, rfl, HD7, HG7⟩
  have HS7 : Hid (ESt w w7 q B m n w.heap.size ⟨⟨h, r, s, i, v⟩, g⟩ ⟨⟨h, r, s, T, v⟩, G⟩) := HS6.out.call HD7.out HG7.out
  clear HS6 HD7 HG7
  go_upto_if 22 with fail
  go_cut [] (fun wx => ∃ y : Sv, Hid (ESt w wx q B m n w.heap.size ⟨⟨h, r, s, i, v⟩, g⟩ y))
  case first =>
    rcases t with _ | _
    · go_wp2_with fail
      go_meet
      exact ⟨_, HS7⟩
    · have hBx : B ≤ w7.heap.size := by have h1 := HS7.out.2.2.2.2.2.1.size; omega
      go_wp2_with fail
      refine (svote_d q B w7 HS7.out.2.2.2.2.1 hBx).mono ?_
      rintro e w8 ⟨y, rfl, HYy, HD8, HG8⟩
      have HS8 : Hid (ESt w w8 q B m n w.heap.size ⟨⟨h, r, s, i, v⟩, g⟩ ⟨⟨h, r, s, T, v⟩, G⟩) := HS7.out.call HD8.out HG8.out
      clear HS7 HD8 HG8
      obtain ⟨⟨h', r', s', i', v'⟩, g'⟩ := y
      unfold yV
      simp only
      have HS9 : Hid (ESt w ((((((w8.setCell ⟨n, 0, none⟩ (.int .i64 h')).setCell ⟨n, 1, none⟩ (.int .i64 r')).setCell ⟨n, 2, none⟩ (.int .i64 s')).setCell ⟨n, 3, none⟩ (.string i')).setCell ⟨n, 4, none⟩ (.int .i64 v')).setCell ⟨n, 5, none⟩ (.string g')) q B m n w.heap.size ⟨⟨h, r, s, i, v⟩, g⟩ ⟨⟨h', r', s', i', v'⟩, g'⟩) := ((((((HS8.out.set 0 (.int .i64 h') ⟨⟨h', r, s, T, v⟩, G⟩ rfl ⟨HS8.out.2.2.2.1.1, HS8.out.2.2.2.1.2⟩).set 1 (.int .i64 r') ⟨⟨h', r', s, T, v⟩, G⟩ rfl ⟨HS8.out.2.2.2.1.1, HS8.out.2.2.2.1.2⟩).set 2 (.int .i64 s') ⟨⟨h', r', s', T, v⟩, G⟩ rfl ⟨HS8.out.2.2.2.1.1, HS8.out.2.2.2.1.2⟩).set 3 (.string i') ⟨⟨h', r', s', i', v⟩, G⟩ rfl ⟨HYy.out.1, HS8.out.2.2.2.1.2⟩).set 4 (.int .i64 v') ⟨⟨h', r', s', i', v'⟩, G⟩ rfl ⟨HYy.out.1, HS8.out.2.2.2.1.2⟩).set 5 (.string g') ⟨⟨h', r', s', i', v'⟩, g'⟩ rfl ⟨HYy.out.1, HYy.out.2⟩)
      have p0 := HS8.out.2.1.cell 0 rfl
      have p1 := HS8.out.2.1.cell 1 rfl
      have p2 := HS8.out.2.1.cell 2 rfl
      have p3 := HS8.out.2.1.cell 3 rfl
      have p4 := HS8.out.2.1.cell 4 rfl
      have p5 := HS8.out.2.1.cell 5 rfl
      have pf := fun j => HS8.out.2.1.frozen j
      clear HS8
      go_wp2_with fail
      go_meet
      exact ⟨_, HS9⟩
  case rest =>
  obtain ⟨y, HS8⟩ := hcut
  rename World => w8
  clear HS7
  obtain ⟨⟨h', r', s', i', v'⟩, g'⟩ := y
  have HDd : Hid (DS w8 q B) := HS8.out.2.2.2.2.1
  have HGg : Hid (w.grownBy w8 (some q)) := HS8.out.2.2.2.2.2.1
  have HCc : Hid (Blk w8 w.heap.size [.int .i64 0, .int .i64 0, .int .i64 0, .string ⟨#[]⟩, .int .i64 0, .string ⟨#[]⟩, .int .i64 0, .int .i64 0, .int .i64 0, .string ⟨#[]⟩, .int .i64 0, .string ⟨#[]⟩] 34) := HS8.out.2.2.2.2.2.2.1
  have HBm : Hid (Blk w8 m [.int .i64 h, .int .i64 r, .int .i64 s, .string i, .int .i64 v, .string g] 32) := HS8.out.1
  have HBn : Hid (Blk w8 n [.int .i64 h', .int .i64 r', .int .i64 s', .string i', .int .i64 v', .string g'] 32) := HS8.out.2.1
  have hBw : B ≤ w.heap.size := hB
  have HDR : Hid (DrY ⟨⟨h, r, s, i, v⟩, g⟩ ∧ DrY ⟨⟨h', r', s', i', v'⟩, g'⟩) := ⟨HS8.out.2.2.1, HS8.out.2.2.2.1⟩
  clear HS8
  have x0 := HBm.out.cell 0 rfl
  have x1 := HBm.out.cell 1 rfl
  have x2 := HBm.out.cell 2 rfl
  have x3 := HBm.out.cell 3 rfl
  have x4 := HBm.out.cell 4 rfl
  have x5 := HBm.out.cell 5 rfl
  have z0 := HBn.out.cell 0 rfl
  have z1 := HBn.out.cell 1 rfl
  have z2 := HBn.out.cell 2 rfl
  have z3 := HBn.out.cell 3 rfl
  have z4 := HBn.out.cell 4 rfl
  have z5 := HBn.out.cell 5 rfl
  have p0 := HCc.out.cell 0 rfl
  have p1 := HCc.out.cell 1 rfl
  have p2 := HCc.out.cell 2 rfl
  have p3 := HCc.out.cell 3 rfl
  have p4 := HCc.out.cell 4 rfl
  have p5 := HCc.out.cell 5 rfl
  have p6 := HCc.out.cell 6 rfl
  have p7 := HCc.out.cell 7 rfl
  have p8 := HCc.out.cell 8 rfl
  have p9 := HCc.out.cell 9 rfl
  have p10 := HCc.out.cell 10 rfl
  have p11 := HCc.out.cell 11 rfl
  have pf := fun j => HCc.out.frozen j
  have HR5 := ((((((((((((HCc.out.set 0 (.int .i64 h)).set 1 (.int .i64 r)).set 2 (.int .i64 s)).set 3 (.string i)).set 4 (.int .i64 v)).set 5 (.string g)).set 6 (.int .i64 h')).set 7 (.int .i64 r')).set 8 (.int .i64 s')).set 9 (.string i')).set 10 (.int .i64 v')).set 11 (.string g'))
  have HD9 : DS _ q B := HDd.out.below (((((((((((((Below.refl B w8).setCell (p := ⟨w.heap.size, 0, none⟩) hBw (.int .i64 h)).setCell (p := ⟨w.heap.size, 1, none⟩) hBw (.int .i64 r)).setCell (p := ⟨w.heap.size, 2, none⟩) hBw (.int .i64 s)).setCell (p := ⟨w.heap.size, 3, none⟩) hBw (.string i)).setCell (p := ⟨w.heap.size, 4, none⟩) hBw (.int .i64 v)).setCell (p := ⟨w.heap.size, 5, none⟩) hBw (.string g)).setCell (p := ⟨w.heap.size, 6, none⟩) hBw (.int .i64 h')).setCell (p := ⟨w.heap.size, 7, none⟩) hBw (.int .i64 r')).setCell (p := ⟨w.heap.size, 8, none⟩) hBw (.int .i64 s')).setCell (p := ⟨w.heap.size, 9, none⟩) hBw (.string i')).setCell (p := ⟨w.heap.size, 10, none⟩) hBw (.int .i64 v')).setCell (p := ⟨w.heap.size, 11, none⟩) hBw (.string g'))
  have HG9 := gr_below HGg.out (((((((((((((Below.refl w.heap.size w8).setCell (p := ⟨w.heap.size, 0, none⟩) (Nat.le_refl _) (.int .i64 h)).setCell (p := ⟨w.heap.size, 1, none⟩) (Nat.le_refl _) (.int .i64 r)).setCell (p := ⟨w.heap.size, 2, none⟩) (Nat.le_refl _) (.int .i64 s)).setCell (p := ⟨w.heap.size, 3, none⟩) (Nat.le_refl _) (.string i)).setCell (p := ⟨w.heap.size, 4, none⟩) (Nat.le_refl _) (.int .i64 v)).setCell (p := ⟨w.heap.size, 5, none⟩) (Nat.le_refl _) (.string g)).setCell (p := ⟨w.heap.size, 6, none⟩) (Nat.le_refl _) (.int .i64 h')).setCell (p := ⟨w.heap.size, 7, none⟩) (Nat.le_refl _) (.int .i64 r')).setCell (p := ⟨w.heap.size, 8, none⟩) (Nat.le_refl _) (.int .i64 s')).setCell (p := ⟨w.heap.size, 9, none⟩) (Nat.le_refl _) (.string i')).setCell (p := ⟨w.heap.size, 10, none⟩) (Nat.le_refl _) (.int .i64 v')).setCell (p := ⟨w.heap.size, 11, none⟩) (Nat.le_refl _) (.string g'))
  go_wp2
  clear p0 p1 p2 p3 p4 p5 p6 p7 p8 p9 p10 p11 pf
  have y0 := HR5.cell 0 rfl
  have y1 := HR5.cell 1 rfl
  have y2 := HR5.cell 2 rfl
  have y3 := HR5.cell 3 rfl
  have y4 := HR5.cell 4 rfl
  have y5 := HR5.cell 5 rfl
  have y6 := HR5.cell 6 rfl
  have y7 := HR5.cell 7 rfl
  have y8 := HR5.cell 8 rfl
  have y9 := HR5.cell 9 rfl
  have y10 := HR5.cell 10 rfl
  have y11 := HR5.cell 11 rfl
  refine bodyPost_ret (v := .agg #[.int .i64 h, .int .i64 r, .int .i64 s, .string i, .int .i64 v, .string g, .int .i64 h', .int .i64 r', .int .i64 s', .string i', .int .i64 v', .string g']) ?_ rfl ⟨⟨⟨h, r, s, i, v⟩, g⟩, ⟨⟨h', r', s', i', v'⟩, g'⟩, rfl, HDR, HD9, HG9⟩
  generalize (((((((((((((w8.setCell _ _).setCell _ _).setCell _ _).setCell _ _).setCell _ _).setCell _ _).setCell _ _).setCell _ _).setCell _ _).setCell _ _).setCell _ _).setCell _ _) : World) = W at *
  clear HR5 HD9 HG9
  simp [results, Tryd.results39, go_sem, y0, y1, y2, y3, y4, y5, y6, y7, y8, y9, y10, y11]

theorem infoYd : ∃ i, Tryd.prog.info? 32 = some i ∧ i.zero = some (.agg #[.int .i64 0, .int .i64 0, .int .i64 0, .string ⟨#[]⟩, .int .i64 0, .string ⟨#[]⟩]) ∧ i.size = 6 ∧ i.bytes = 64 :=
  info_parts (by kernel_rfl)
theorem one_y (w : World) (y : Sv) (p : Nat) (hp : p = w.heap.size) : ∀ j u, (yLs y)[j]? = some u → (w.alloc (.cells (yLs y).toArray 32)).cell? ((⟨p, 0, none⟩ : Addr).add j) = some u := by
  intro j u hj
  subst hp
  rw [add_at, cell_of_row _ _ j (yLs y).toArray 32 (0, 0) (heap_alloc_new _ _)]
  rw [← hj]; simp
/-- A row that is being drawn. -/
def LSt (w wx : World) (q B : Nat) (v : Value) (X : List Sv) : Prop := OwnY wx w.heap.size v X ∧ (∀ y ∈ X, DrY y) ∧ DS wx q B ∧ w.grownBy wx (some q) ∧ q < w.heap.size ∧ B ≤ w.heap.size
theorem LSt.call {w wx wy : World} {q B : Nat} {v : Value} {X : List Sv} (h : LSt w wx q B v X) (hd : DS wy q B) (hg : wx.grownBy wy (some q)) : LSt w wy q B v X := by
  obtain ⟨h1, h2, h3, h4, h5, h6⟩ := h
  refine ⟨World.ownsRow.kept h1 hg ?_, h2, hd, grown_trans h4 hg, h5, h6⟩
  cases hv : v.ownBlock with
  | none => exact .inl rfl
  | some x => exact .inr (fun e => by injection e with e; have := (World.ownsRow.lt h1 x hv).1; omega)
theorem LSt.below {w wx wy : World} {q B : Nat} {v : Value} {X : List Sv} (h : LSt w wx q B v X) (hb : Below wx.heap.size wx wy) : LSt w wy q B v X := by
  obtain ⟨h1, h2, h3, h4, h5, h6⟩ := h
  have hs : w.heap.size ≤ wx.heap.size := h4.size
  exact ⟨own_hold h1 hb, h2, h3.below (hb.mono (by omega)), gr_below h4 (hb.mono hs), h5, h6⟩
theorem LSt.app {w wx wy : World} {q B : Nat} {v v' : Value} {X : List Sv} {y : Sv} (h : LSt w wx q B v X) (ho : wy.ownsRow w.heap.size 32 6 v' (X.length + 1) (ycs X ++ yLs y)) (hg : wx.grownBy wy v.ownBlock) (hy : DrY y) : LSt w wy q B v' (X ++ [y]) := by
  obtain ⟨h1, h2, h3, h4, h5, h6⟩ := h
  have hs : w.heap.size ≤ wx.heap.size := h4.size
  have hb : Below w.heap.size wx wy := (Below.refl _ _).grown hg hs (fun j hj => (World.ownsRow.lt h1 j hj).1)
  refine ⟨own_snocY ho, fun z hz => ?_, h3.below (hb.mono h6), gr_below h4 hb, h5, h6⟩
  rcases List.mem_append.1 hz with hz | hz
  · exact h2 z hz
  · rw [List.mem_singleton] at hz; subst hz; exact hy
set_option maxHeartbeats 6400000 in
set_option maxRecDepth 100000 in
theorem list_d (q B : Nat) (w : World) (hd : DS w q B) (hB : B ≤ w.heap.size) :
    Calls Tryd.prog 32 #[.pointer (some ⟨q, 0, none⟩)] w fun e w' => ∃ (v : Value) (X : List Sv), e = .returned v ∧ Hid (OwnY w' w.heap.size v X) ∧ Hid (∀ y ∈ X, DrY y) ∧ X.length ≤ 9 ∧ Hid (w.grownBy w' (some q)) := by
  obtain ⟨i0, hinf, hz0, hz1, hz2⟩ := infoYd
  have hq := hd.lt'
  have HS0 : Hid (LSt w (w.alloc (.cells #[] 32)) q B (.slice (some ⟨w.heap.size, 0, none⟩) 0 0) []) :=
    ⟨World.ownsRow_made w #[] 0 (Nat.le_refl _) (by decide) rfl, fun y hy => (by cases hy), hd.below ((Below.refl _ _).alloc hB _), grown_alloc (grown_refl _ _) _, hq, hB⟩
  clear hd
  go_enter Tryd.func32, Tryd.ntmps32
  go_wp2_with fail
  generalize w.alloc (Obj.cells #[] 32) = w0 at *
  refine (below_d q B 9 _ HS0.out.2.2.1 (by omega)).mono ?_
  rintro e w1 ⟨y0, rfl, l0, u0, HD1, HG1⟩
  have HS1 : Hid (LSt w w1 q B (.slice (some ⟨w.heap.size, 0, none⟩) 0 0) []) := HS0.out.call HD1.out HG1.out
  clear HS0 HD1 HG1
  obtain ⟨n0, rfl⟩ : ∃ n : Nat, y0 = (n : Int) := ⟨y0.toNat, by omega⟩
  have hn0 : n0 ≤ 9 := by omega
  go_wp2
  go_loopw [4, 3] (fun nv lv wr => ∃ (m : Nat) (v : Value) (X : List Sv), m + X.length ≤ 9 ∧ nv = .int .i64 m ∧ v = lv ∧ Hid (LSt w wr q B v X)) (fun nv _ _ => (intOf nv).toNat)
  case atStart => exact ⟨n0, _, [], by simpa using hn0, rfl, rfl, HS1⟩
  case round =>
    obtain ⟨m, v, X, hm, rfl, rfl, HS⟩ := hrel
    clear HS1
    by_cases hpos : 0 < m
    · have hpz : (0 : Int) < (m : Int) := by omega
      obtain ⟨m', rfl⟩ : ∃ m', m = m' + 1 := ⟨m - 1, by omega⟩
      have hBx : B ≤ wr.heap.size := by have h1 := HS.out.2.2.2.1.size; omega
      go_wp2_with fail
      refine (svote_d q B wr HS.out.2.2.1 hBx).mono ?_
      rintro e w2 ⟨y, rfl, HY, HD2, HG2⟩
      have HS2 : Hid (LSt w w2 q B v X) := HS.out.call HD2.out HG2.out
      clear HS HD2 HG2
      obtain ⟨w3, hw3⟩ : ∃ W, w2.alloc (.cells (yLs y).toArray 32) = W := ⟨_, rfl⟩
      have HS3 : Hid (LSt w w3 q B v X) := by rw [← hw3]; exact HS2.out.below (below_one _ _)
      have HC : Hid (∀ j u, (yLs y)[j]? = some u → w3.cell? ((⟨w2.heap.size, 0, none⟩ : Addr).add j) = some u) := by rw [← hw3]; exact one_y w2 y _ rfl
      have hX : X.length ≤ 9 := by omega
      have hs3 : w.heap.size ≤ w3.heap.size := HS3.out.2.2.2.1.size
      clear HS2
      have HYL : Hid (∀ u ∈ yLs y, u.oneCell' = true) := y_one y
      have HAP : Hid (∀ (v' : Value) (wy : World), wy.ownsRow w.heap.size 32 6 v' (X.length + 1) (ycs X ++ yLs y) → w3.grownBy wy v.ownBlock → LSt w wy q B v' (X ++ [y])) := fun v' wy h1 h2 => HS3.out.app h1 h2 HY.out
      have HXL : Hid ((X ++ [y]).length = X.length + 1) := by show _ = _; simp
      generalize X ++ [y] = X' at *
      obtain ⟨⟨h, r, s, i, vv⟩, g⟩ := y
      unfold yLs at hw3 HC HYL HAP
      unfold yV
      simp only at hw3 HC HYL HAP ⊢
      go_wp2_with (first | (at_builtin; refine wpList_append_own _ rfl _ _ 24 rfl w.heap.size 32 i0 (.agg #[.int .i64 0, .int .i64 0, .int .i64 0, .string ⟨#[]⟩, .int .i64 0, .string ⟨#[]⟩]) 6 64 Tryd.underlying24 hinf hz0 hz1 hz2 rfl (by decide) _ _ _ rfl HS3.out.1 ⟨w2.heap.size, 0, none⟩ 1 1 [.int .i64 h, .int .i64 r, .int .i64 s, .string i, .int .i64 vv, .string g] rfl rfl HC.out HYL.out (by unfold maxLen; omega) (by omega) hs3 ?_; intro v9 w9 hown9 hgrow9 _) | fail)
      have HS9 : Hid (LSt w w9 q B v9 X') := HAP.out v9 w9 hown9 hgrow9
      have hlen : m' + X'.length ≤ 9 := by have := HXL.out; omega
      clear hown9 hgrow9 HS3 HAP HC hw3 HXL
      go_wp2
      go_roundw
      case rel =>
        have RR : ∃ (m0 : Nat) (v0 : Value) (X0 : List Sv), m0 + X0.length ≤ 9 ∧ Value.int .i64 (m' : Int) = .int .i64 m0 ∧ v0 = v9 ∧ Hid (LSt w w9 q B v0 X0) := ⟨m', v9, X', hlen, rfl, rfl, HS9⟩
        first | exact RR | ((repeat apply Exists.intro); exact ⟨RR, rfl⟩) | ((repeat apply Exists.intro); exact ⟨rfl, RR⟩) | ((repeat apply Exists.intro); exact RR)
      case measure => first | (simp [intOf]; done) | (simp [intOf]; omega)
    · have hpz : ¬ (0 : Int) < (m : Int) := by omega
      go_wp2
      go_ret
      first | exact ⟨_, X, rfl, HS.out.1, HS.out.2.1, by omega, HS.out.2.2.2.1⟩ | exact ⟨_, rfl, X, HS.out.1, HS.out.2.1, by omega, HS.out.2.2.2.1⟩
theorem ds_at {w : World} {a : Option Addr} {L : List UInt8} {cap : Nat} (hl : CodeAt w w.heap.size a L) (hlen : L.length ≤ 1048576) (h0 : Int) :
    DS (w.alloc (.cells #[.slice a L.length cap, .int .i64 0, .int .i64 h0] 78)) w.heap.size (w.heap.size + 1) := by
  refine ⟨a, L, cap, ⟨0, h0⟩, hlen, heap_alloc_new _ _, CodeAt.kept hl (grown_alloc (grown_refl _ _) _), by omega, fun j hj => ?_⟩
  obtain ⟨b, off, e, hne, hc⟩ := hl j hj
  have := World.block_lt_of_cell? w _ hc
  exact ⟨b, off, e, by simp at this; omega⟩
theorem code_next {w : World} {a : Option Addr} {L : List UInt8} (hl : CodeAt w w.heap.size a L) (o : Obj) : CodeAt (w.alloc o) (w.alloc o).heap.size a L := by
  intro j hj
  obtain ⟨b, off, e, hne, hc⟩ := hl j hj
  have h1 : b < w.heap.size := World.block_lt_of_cell? w _ hc
  refine ⟨b, off, e, by simp; omega, ?_⟩
  rw [((Below.refl _ _).alloc (Nat.le_refl _) o : Below w.heap.size w (w.alloc o)).cell (p := ⟨b, off + j, none⟩) h1]; exact hc
set_option maxHeartbeats 1600000 in
set_option maxRecDepth 100000 in
theorem draw_blame (a : Option Addr) (L : List UInt8) (cap : Nat) (w : World) (hl : CodeAt w w.heap.size a L) (hlen : L.length ≤ 1048576) :
    Calls Tryd.prog 9 #[.slice a L.length cap] w fun e w' => ∃ (v : Value) (X : List Sv), e = .returned v ∧ Hid (OwnY w' w.heap.size v X) ∧ Hid (∀ y ∈ X, DrY y) ∧ X.length ≤ 9 ∧ Hid (Below w.heap.size w w') := by
  have HL : Hid (CodeAt w w.heap.size a L) := hl
  clear hl
  go_enter Tryd.func9, Tryd.ntmps9
  go_wp2_with fail
  refine (new_any a L cap w HL.out hlen).mono ?_
  rintro e w1 ⟨rfl, hw1⟩
  have HD1 : Hid (DS w1 w.heap.size (w.heap.size + 1)) := by show DS _ _ _; rw [hw1]; exact ds_at HL.out hlen _
  have HB1 : Hid (Below w.heap.size w w1) := by show Below _ _ _; rw [hw1]; exact below_one _ _
  have hs1 : w.heap.size + 1 ≤ w1.heap.size := by rw [hw1]; simp
  clear hw1 HL
  go_wp2_with fail
  refine (list_d w.heap.size (w.heap.size + 1) w1 HD1.out hs1).mono ?_
  rintro e w2 ⟨v, X, rfl, HO, HX, hX, HG⟩
  have HO2 : Hid (OwnY w2 w.heap.size v X) := ⟨HO.out.1, HO.out.2.imp id fun ⟨g, c, cur, h1, h2, h3⟩ => ⟨g, c, cur, h1, by omega, h3⟩⟩
  have HB2 : Hid (Below w.heap.size w w2) := HB1.out.grown HG.out HB1.out.size (fun k e => by injection e; omega)
  clear HO HG HB1 HD1
  go_wp2
  go_ret
  first | exact ⟨_, X, rfl, HO2, HX, hX, HB2⟩ | exact ⟨_, rfl, X, HO2, HX, hX, HB2⟩
set_option maxHeartbeats 1600000 in
set_option maxRecDepth 100000 in
theorem draw_evid (a : Option Addr) (L : List UInt8) (cap : Nat) (w : World) (hl : CodeAt w w.heap.size a L) (hlen : L.length ≤ 1048576) :
    Calls Tryd.prog 17 #[.slice a L.length cap] w fun e w' => ∃ a b : Sv, e = .returned (eV a b) ∧ Hid (DrY a ∧ DrY b) ∧ Hid (Below w.heap.size w w') := by
  have HC0 : Hid (Blk (w.alloc (.cells [.int .i64 0, .int .i64 0, .int .i64 0, .string ⟨#[]⟩, .int .i64 0, .string ⟨#[]⟩, .int .i64 0, .int .i64 0, .int .i64 0, .string ⟨#[]⟩, .int .i64 0, .string ⟨#[]⟩].toArray 34)) w.heap.size [.int .i64 0, .int .i64 0, .int .i64 0, .string ⟨#[]⟩, .int .i64 0, .string ⟨#[]⟩, .int .i64 0, .int .i64 0, .int .i64 0, .string ⟨#[]⟩, .int .i64 0, .string ⟨#[]⟩] 34) := blk_new w _ _
  have HL0 : Hid (CodeAt (w.alloc (.cells [.int .i64 0, .int .i64 0, .int .i64 0, .string ⟨#[]⟩, .int .i64 0, .string ⟨#[]⟩, .int .i64 0, .int .i64 0, .int .i64 0, .string ⟨#[]⟩, .int .i64 0, .string ⟨#[]⟩].toArray 34)) (w.alloc (.cells [.int .i64 0, .int .i64 0, .int .i64 0, .string ⟨#[]⟩, .int .i64 0, .string ⟨#[]⟩, .int .i64 0, .int .i64 0, .int .i64 0, .string ⟨#[]⟩, .int .i64 0, .string ⟨#[]⟩].toArray 34)).heap.size a L) := code_next hl _
  have HB0 : Hid (Below w.heap.size w (w.alloc (.cells [.int .i64 0, .int .i64 0, .int .i64 0, .string ⟨#[]⟩, .int .i64 0, .string ⟨#[]⟩, .int .i64 0, .int .i64 0, .int .i64 0, .string ⟨#[]⟩, .int .i64 0, .string ⟨#[]⟩].toArray 34))) := below_one _ _
  have hs0 : (w.alloc (.cells [.int .i64 0, .int .i64 0, .int .i64 0, .string ⟨#[]⟩, .int .i64 0, .string ⟨#[]⟩, .int .i64 0, .int .i64 0, .int .i64 0, .string ⟨#[]⟩, .int .i64 0, .string ⟨#[]⟩].toArray 34)).heap.size = w.heap.size + 1 := by simp
  clear hl
  go_enter Tryd.func17, Tryd.ntmps17
  go_wp2_with fail
  generalize w.alloc (Obj.cells #[.int .i64 0, .int .i64 0, .int .i64 0, .string ⟨#[]⟩, .int .i64 0, .string ⟨#[]⟩, .int .i64 0, .int .i64 0, .int .i64 0, .string ⟨#[]⟩, .int .i64 0, .string ⟨#[]⟩] 34) = w0 at *
  refine (new_any a L cap w0 HL0.out hlen).mono ?_
  rintro e w1 ⟨rfl, hw1⟩
  have HD1 : Hid (DS w1 w0.heap.size (w0.heap.size + 1)) := by show DS _ _ _; rw [hw1]; exact ds_at HL0.out hlen _
  have HC1 : Hid (Blk w1 w.heap.size [.int .i64 0, .int .i64 0, .int .i64 0, .string ⟨#[]⟩, .int .i64 0, .string ⟨#[]⟩, .int .i64 0, .int .i64 0, .int .i64 0, .string ⟨#[]⟩, .int .i64 0, .string ⟨#[]⟩] 34) := by show Blk _ _ _ _; rw [hw1]; exact HC0.out.alloc _
  have HB1 : Hid (Below w.heap.size w w1) := by show Below _ _ _; rw [hw1]; exact HB0.out.alloc HB0.out.size _
  have hs1 : w0.heap.size + 1 ≤ w1.heap.size := by rw [hw1]; simp
  clear hw1 HL0 HC0 HB0
  rw [hs0] at HD1 hs1 ⊢
  clear hs0
  go_wp2_with fail
  refine (evid_d (w.heap.size + 1) (w.heap.size + 1 + 1) w1 HD1.out hs1).mono ?_
  rintro e w2 ⟨x, y, rfl, HXY, HD2, HG2⟩
  have HC2 : Hid (Blk w2 w.heap.size [.int .i64 0, .int .i64 0, .int .i64 0, .string ⟨#[]⟩, .int .i64 0, .string ⟨#[]⟩, .int .i64 0, .int .i64 0, .int .i64 0, .string ⟨#[]⟩, .int .i64 0, .string ⟨#[]⟩] 34) := HC1.out.grown HG2.out (by simp)
  have HB2 : Hid (Below w.heap.size w w2) := HB1.out.grown HG2.out HB1.out.size (fun k e => by injection e; omega)
  clear HD1 HC1 HB1 hs1 HG2 HD2
  obtain ⟨⟨h, r, s, i, v⟩, g⟩ := x
  obtain ⟨⟨h', r', s', i', v'⟩, g'⟩ := y
  unfold eV
  simp only
  have p0 := HC2.out.cell 0 rfl
  have p1 := HC2.out.cell 1 rfl
  have p2 := HC2.out.cell 2 rfl
  have p3 := HC2.out.cell 3 rfl
  have p4 := HC2.out.cell 4 rfl
  have p5 := HC2.out.cell 5 rfl
  have p6 := HC2.out.cell 6 rfl
  have p7 := HC2.out.cell 7 rfl
  have p8 := HC2.out.cell 8 rfl
  have p9 := HC2.out.cell 9 rfl
  have p10 := HC2.out.cell 10 rfl
  have p11 := HC2.out.cell 11 rfl
  have pf := fun j => HC2.out.frozen j
  have HR5 := ((((((((((((HC2.out.set 0 (.int .i64 h)).set 1 (.int .i64 r)).set 2 (.int .i64 s)).set 3 (.string i)).set 4 (.int .i64 v)).set 5 (.string g)).set 6 (.int .i64 h')).set 7 (.int .i64 r')).set 8 (.int .i64 s')).set 9 (.string i')).set 10 (.int .i64 v')).set 11 (.string g'))
  have HB5 := ((((((((((((HB2.out.setCell (p := ⟨w.heap.size, 0, none⟩) (Nat.le_refl _) (.int .i64 h)).setCell (p := ⟨w.heap.size, 1, none⟩) (Nat.le_refl _) (.int .i64 r)).setCell (p := ⟨w.heap.size, 2, none⟩) (Nat.le_refl _) (.int .i64 s)).setCell (p := ⟨w.heap.size, 3, none⟩) (Nat.le_refl _) (.string i)).setCell (p := ⟨w.heap.size, 4, none⟩) (Nat.le_refl _) (.int .i64 v)).setCell (p := ⟨w.heap.size, 5, none⟩) (Nat.le_refl _) (.string g)).setCell (p := ⟨w.heap.size, 6, none⟩) (Nat.le_refl _) (.int .i64 h')).setCell (p := ⟨w.heap.size, 7, none⟩) (Nat.le_refl _) (.int .i64 r')).setCell (p := ⟨w.heap.size, 8, none⟩) (Nat.le_refl _) (.int .i64 s')).setCell (p := ⟨w.heap.size, 9, none⟩) (Nat.le_refl _) (.string i')).setCell (p := ⟨w.heap.size, 10, none⟩) (Nat.le_refl _) (.int .i64 v')).setCell (p := ⟨w.heap.size, 11, none⟩) (Nat.le_refl _) (.string g'))
  go_wp2
  clear p0 p1 p2 p3 p4 p5 p6 p7 p8 p9 p10 p11 pf
  have y0 := HR5.cell 0 rfl
  have y1 := HR5.cell 1 rfl
  have y2 := HR5.cell 2 rfl
  have y3 := HR5.cell 3 rfl
  have y4 := HR5.cell 4 rfl
  have y5 := HR5.cell 5 rfl
  have y6 := HR5.cell 6 rfl
  have y7 := HR5.cell 7 rfl
  have y8 := HR5.cell 8 rfl
  have y9 := HR5.cell 9 rfl
  have y10 := HR5.cell 10 rfl
  have y11 := HR5.cell 11 rfl
  refine bodyPost_ret (v := .agg #[.int .i64 h, .int .i64 r, .int .i64 s, .string i, .int .i64 v, .string g, .int .i64 h', .int .i64 r', .int .i64 s', .string i', .int .i64 v', .string g']) ?_ rfl ⟨⟨⟨h, r, s, i, v⟩, g⟩, ⟨⟨h', r', s', i', v'⟩, g'⟩, rfl, HXY, HB5⟩
  generalize (((((((((((((w2.setCell _ _).setCell _ _).setCell _ _).setCell _ _).setCell _ _).setCell _ _).setCell _ _).setCell _ _).setCell _ _).setCell _ _).setCell _ _).setCell _ _) : World) = W at *
  clear HR5 HB5
  simp [results, Tryd.results17, go_sem, y0, y1, y2, y3, y4, y5, y6, y7, y8, y9, y10, y11]
end Go.Proofs.YtclajbadeclbdaaDoor
