/- What spec.DrawSigned draws, as far as the laws ask; old memory stays. Conditions: a code of at most 2 to the 20 bytes. -/
import Derived.Test.YtphoafjjilpfdaaDoorDv
import Derived.Test.YtphoafjjilpfdaaDoorVg
import Derived.Deep.RegionWith
namespace Go.Proofs.YtphoafjjilpfdaaDoor
open Go.RowKit
open Num
set_option linter.unusedVariables false
theorem ds_at {w : World} {a : Option Addr} {L : List UInt8} {cap : Nat} (hl : CodeAt w w.heap.size a L) (hlen : L.length ≤ 1048576) (h0 : Int) :
    DS (w.alloc (.cells #[.slice a L.length cap, .int .i64 0, .int .i64 h0] 51)) w.heap.size (w.heap.size + 1) := by
  refine ⟨a, L, cap, ⟨0, h0⟩, hlen, heap_alloc_new _ _, CodeAt.kept hl (grown_alloc (grown_refl _ _) _), by omega, fun j hj => ?_⟩
  obtain ⟨b, off, e, hne, hc⟩ := hl j hj
  have := World.block_lt_of_cell? w _ hc
  exact ⟨b, off, e, by simp at this; omega⟩
theorem code_next {w : World} {a : Option Addr} {L : List UInt8} (hl : CodeAt w w.heap.size a L) (o : Obj) : CodeAt (w.alloc o) (w.alloc o).heap.size a L := by
  intro j hj
  obtain ⟨b, off, e, hne, hc⟩ := hl j hj
  have h1 : b < w.heap.size := World.block_lt_of_cell? w _ hc
  refine ⟨b, off, e, by simp; omega, ?_⟩
  rw [((Below.refl _ _).alloc (Nat.le_refl _) o : Below w.heap.size w (w.alloc o)).cell (p := ⟨b, off + j, none⟩) h1]; exact hc
set_option maxHeartbeats 3200000 in
theorem draw_signed (a : Option Addr) (L : List UInt8) (cap : Nat) (w : World) (hl : CodeAt w w.heap.size a L) (hlen : L.length ≤ 1048576) :
    Calls Tryd.prog 7 #[.slice a L.length cap] w fun e w' => ∃ (x : Vt) (s : ByteArray), e = .returned (.tuple #[tV x, .string s]) ∧ Hid (Dr x.r x.i x.v) ∧ Hid (s.size ≤ 1003) ∧ Hid (Below w.heap.size w w') := by
  have HC0 : Hid (Blk (w.alloc (.cells [.int .i64 0, .int .i64 0, .int .i64 0, .string ⟨#[]⟩, .int .i64 0].toArray 25)) w.heap.size [.int .i64 0, .int .i64 0, .int .i64 0, .string ⟨#[]⟩, .int .i64 0] 25) := blk_new w _ _
  have HL0 : Hid (CodeAt (w.alloc (.cells [.int .i64 0, .int .i64 0, .int .i64 0, .string ⟨#[]⟩, .int .i64 0].toArray 25)) (w.alloc (.cells [.int .i64 0, .int .i64 0, .int .i64 0, .string ⟨#[]⟩, .int .i64 0].toArray 25)).heap.size a L) := code_next hl _
  have HB0 : Hid (Below w.heap.size w (w.alloc (.cells [.int .i64 0, .int .i64 0, .int .i64 0, .string ⟨#[]⟩, .int .i64 0].toArray 25))) := (Below.refl _ _).alloc (Nat.le_refl _) _
  have hs0 : (w.alloc (.cells [.int .i64 0, .int .i64 0, .int .i64 0, .string ⟨#[]⟩, .int .i64 0].toArray 25)).heap.size = w.heap.size + 1 := by simp
  clear hl
  go_enter Tryd.func7, Tryd.ntmps7
  go_wp2_with fail
  generalize w.alloc (Obj.cells #[Value.int .i64 0, Value.int .i64 0, Value.int .i64 0, Value.string ⟨#[]⟩, Value.int .i64 0] 25) = w0 at *
  refine (new_any a L cap w0 HL0.out hlen).mono ?_
  rintro e w1 ⟨rfl, hw1⟩
  have HD1 : Hid (DS w1 w0.heap.size (w0.heap.size + 1)) := by show DS _ _ _; rw [hw1]; exact ds_at HL0.out hlen _
  have HC1 : Hid (Blk w1 w.heap.size [.int .i64 0, .int .i64 0, .int .i64 0, .string ⟨#[]⟩, .int .i64 0] 25) := by show Blk _ _ _ _; rw [hw1]; exact HC0.out.alloc _
  have HB1 : Hid (Below w.heap.size w w1) := by show Below _ _ _; rw [hw1]; exact HB0.out.alloc HB0.out.size _
  have hs1 : w0.heap.size + 1 ≤ w1.heap.size := by rw [hw1]; simp
  clear hw1 HL0 HC0 HB0
  rw [hs0] at HD1 hs1 ⊢
  clear hs0
  go_wp2_with fail
  refine (vote_d (w.heap.size + 1) (w.heap.size + 1 + 1) w1 HD1.out hs1).mono ?_
  rintro e w2 ⟨x, rfl, HX, HD2, HG2⟩
  have HC2 : Hid (Blk w2 w.heap.size [.int .i64 0, .int .i64 0, .int .i64 0, .string ⟨#[]⟩, .int .i64 0] 25) := HC1.out.grown HG2.out (by simp)
  have HB2 : Hid (Below w.heap.size w w2) := HB1.out.grown HG2.out HB1.out.size (fun k e => by injection e; omega)
  have hs2 : w.heap.size + 1 + 1 ≤ w2.heap.size := Nat.le_trans hs1 HG2.out.size
  clear HD1 HC1 HB1 hs1 HG2
  have kD := fun W => spec_dig x W
  have kG := fun W => spec_sgn x.v (dig x) W (by have := dig_size x; omega)
  have hgz := sgn_size x.v (dig x)
  generalize sgn x.v (dig x) = G at *
  generalize dig x = D at *
  obtain ⟨h, r, s, i, v⟩ := x
  unfold tV at *
  simp only at kD kG HX ⊢
  have HV3 : Hid (Blk (w2.alloc (.cells [.int .i64 h, .int .i64 r, .int .i64 s, .string i, .int .i64 v].toArray 25)) w2.heap.size [.int .i64 h, .int .i64 r, .int .i64 s, .string i, .int .i64 v] 25) := blk_new w2 _ _
  have HC3 : Hid (Blk (w2.alloc (.cells [.int .i64 h, .int .i64 r, .int .i64 s, .string i, .int .i64 v].toArray 25)) w.heap.size [.int .i64 0, .int .i64 0, .int .i64 0, .string ⟨#[]⟩, .int .i64 0] 25) := HC2.out.alloc _
  have HD3 : Hid (DS (w2.alloc (.cells [.int .i64 h, .int .i64 r, .int .i64 s, .string i, .int .i64 v].toArray 25)) (w.heap.size + 1) (w.heap.size + 1 + 1)) := HD2.out.below ((Below.refl _ _).alloc hs2 _)
  have HB3 : Hid (Below w.heap.size w (w2.alloc (.cells [.int .i64 h, .int .i64 r, .int .i64 s, .string i, .int .i64 v].toArray 25))) := HB2.out.alloc HB2.out.size _
  have hs3 : w2.heap.size < (w2.alloc (.cells [.int .i64 h, .int .i64 r, .int .i64 s, .string i, .int .i64 v].toArray 25)).heap.size := by simp
  clear HD2 HC2 HB2
  go_wp2_with fail
  generalize w2.alloc (Obj.cells #[Value.int .i64 h, Value.int .i64 r, Value.int .i64 s, Value.string i, Value.int .i64 v] 25) = w3 at *
  generalize w2.heap.size = b at *
  have hne := bel_some w3
  have c0 := fun p : Bel w3 => p.cell (HV3.out.cell 0 rfl)
  have c1 := fun p : Bel w3 => p.cell (HV3.out.cell 1 rfl)
  have c2 := fun p : Bel w3 => p.cell (HV3.out.cell 2 rfl)
  have c3 := fun p : Bel w3 => p.cell (HV3.out.cell 3 rfl)
  have c4 := fun p : Bel w3 => p.cell (HV3.out.cell 4 rfl)
  refine wp_region_below (by kernel_rfl) (by kernel_rfl) ?_
  repeat (go_big_quiet_step (first | (go_at_call 17; exact bel_of (kD _)) | (go_at_call 12; exact bel_of (kG _))))
  refine wpQuiet_nil ?_
  intro _ hw'
  obtain ⟨pq, hw''⟩ := hw'
  subst hw''
  have b4 : Below w3.heap.size w3 pq.W := pq.h
  generalize pq.W = w4 at *
  clear pq
  have HV4 : Hid (Blk w4 b [.int .i64 h, .int .i64 r, .int .i64 s, .string i, .int .i64 v] 25) := HV3.out.below b4 HV3.out.lt
  have HC4 : Hid (Blk w4 w.heap.size [.int .i64 0, .int .i64 0, .int .i64 0, .string ⟨#[]⟩, .int .i64 0] 25) := HC3.out.below b4 HC3.out.lt
  have HD4 : Hid (DS w4 (w.heap.size + 1) (w.heap.size + 1 + 1)) := HD3.out.below (b4.mono (by omega))
  have HB4 : Hid (Below w.heap.size w w4) := HB3.out.trans (b4.mono HB3.out.size)
  have hs4 : w.heap.size + 1 + 1 ≤ w4.heap.size := Nat.le_trans (by omega) b4.size
  clear c0 c1 c2 c3 c4 hne HV3 HC3 HD3 HB3 hs3 b4 kD kG
  go_wp2_with fail
  refine (below_d (w.heap.size + 1) (w.heap.size + 1 + 1) 4 _ HD4.out (by omega)).mono ?_
  rintro e w5 ⟨y, rfl, e0, e1, HD5, HG5⟩
  have HV5 : Hid (Blk w5 b [.int .i64 h, .int .i64 r, .int .i64 s, .string i, .int .i64 v] 25) := HV4.out.grown HG5.out (by simp; omega)
  have HC5 : Hid (Blk w5 w.heap.size [.int .i64 0, .int .i64 0, .int .i64 0, .string ⟨#[]⟩, .int .i64 0] 25) := HC4.out.grown HG5.out (by simp)
  have HB5 : Hid (Below w.heap.size w w5) := HB4.out.grown HG5.out HB4.out.size (fun k e => by injection e; omega)
  have hs5 : w.heap.size + 1 + 1 ≤ w5.heap.size := Nat.le_trans hs4 HG5.out.size
  clear HD4 HC4 HV4 HB4 hs4 HG5
  have x0 := HV5.out.cell 0 rfl
  have x1 := HV5.out.cell 1 rfl
  have x2 := HV5.out.cell 2 rfl
  have x3 := HV5.out.cell 3 rfl
  have x4 := HV5.out.cell 4 rfl
  by_cases g0 : y = 0
  · subst g0
    have HDd : Hid (DS w5.drew (w.heap.size + 1) (w.heap.size + 1 + 1)) := HD5.out
    have HVd : Hid (Blk w5.drew b [.int .i64 h, .int .i64 r, .int .i64 s, .string i, .int .i64 v] 25) := HV5.out
    have HCd : Hid (Blk w5.drew w.heap.size [.int .i64 0, .int .i64 0, .int .i64 0, .string ⟨#[]⟩, .int .i64 0] 25) := HC5.out
    have HBd : Hid (Below w.heap.size w w5.drew) := HB5.out.drew
    have hsd : w.heap.size + 1 + 1 ≤ w5.drew.heap.size := hs5
    have hGz : G.size ≤ 1000 := by omega
    clear HD5 HV5 HC5 HB5 hs5 hgz
    go_wp2_with fail
    go_region_with ((go_at_call 19; refine (spoil_d (w.heap.size + 1) (w.heap.size + 1 + 1) G _ HDd.out hGz).mono ?_; rintro e w6 ⟨t, rfl, HGz, HD6, HG6⟩; have HV6 : Hid (Blk w6 b [.int .i64 h, .int .i64 r, .int .i64 s, .string i, .int .i64 v] 25) := HVd.out.grown HG6.out (by simp; omega); have HC6 : Hid (Blk w6 w.heap.size [.int .i64 0, .int .i64 0, .int .i64 0, .string ⟨#[]⟩, .int .i64 0] 25) := HCd.out.grown HG6.out (by simp); have HB6 : Hid (Below w.heap.size w w6) := HBd.out.grown HG6.out HBd.out.size (fun k e => by injection e; omega); have z0 := HV6.out.cell 0 rfl; have z1 := HV6.out.cell 1 rfl; have z2 := HV6.out.cell 2 rfl; have z3 := HV6.out.cell 3 rfl; have z4 := HV6.out.cell 4 rfl; have p0 := HC6.out.cell 0 rfl; have p1 := HC6.out.cell 1 rfl; have p2 := HC6.out.cell 2 rfl; have p3 := HC6.out.cell 3 rfl; have p4 := HC6.out.cell 4 rfl; have pf := fun j => HC6.out.frozen j))
    all_goals
      go_wp2
      clear x0 x1 x2 x3 x4 z0 z1 z2 z3 z4
      have HR5 := ((((HC6.out.set 0 (.int .i64 h)).set 1 (.int .i64 r)).set 2 (.int .i64 s)).set 3 (.string i)).set 4 (.int .i64 v)
      have HB5 := ((((HB6.out.setCell (p := ⟨w.heap.size, 0, none⟩) (Nat.le_refl _) (.int .i64 h)).setCell (p := ⟨w.heap.size, 1, none⟩) (Nat.le_refl _) (.int .i64 r)).setCell (p := ⟨w.heap.size, 2, none⟩) (Nat.le_refl _) (.int .i64 s)).setCell (p := ⟨w.heap.size, 3, none⟩) (Nat.le_refl _) (.string i)).setCell (p := ⟨w.heap.size, 4, none⟩) (Nat.le_refl _) (.int .i64 v)
      clear p0 p1 p2 p3 p4 pf
      have y0 := HR5.cell 0 rfl
      have y1 := HR5.cell 1 rfl
      have y2 := HR5.cell 2 rfl
      have y3 := HR5.cell 3 rfl
      have y4 := HR5.cell 4 rfl
      refine bodyPost_ret (v := .tuple #[.agg #[.int .i64 h, .int .i64 r, .int .i64 s, .string i, .int .i64 v], .string t]) ?_ rfl ⟨⟨h, r, s, i, v⟩, t, rfl, HX, HGz, HB5⟩
      generalize (((((w6.setCell _ _).setCell _ _).setCell _ _).setCell _ _).setCell _ _ : World) = W at *
      clear HB5 HR5
      simp [results, Tryd.results7, go_sem, y0, y1, y2, y3, y4]
  · by_cases g1 : y = 1
    · subst g1
      clear x0 x1 x2 x3 x4 g0 HX HV5
      go_wp2_with fail
      refine (vote_d (w.heap.size + 1) (w.heap.size + 1 + 1) w5 HD5.out hs5).mono ?_
      rintro e w6 ⟨x, rfl, HX, HD6, HG6⟩
      have HC6 : Hid (Blk w6 w.heap.size [.int .i64 0, .int .i64 0, .int .i64 0, .string ⟨#[]⟩, .int .i64 0] 25) := HC5.out.grown HG6.out (by simp)
      have HB6 : Hid (Below w.heap.size w w6) := HB5.out.grown HG6.out HB5.out.size (fun k e => by injection e; omega)
      have HGz : Hid (G.size ≤ 1003) := show G.size ≤ 1003 by omega
      clear HD5 HC5 HB5 hs5 HG6 HD6 hgz
      obtain ⟨hh, rr, ss, ii, vv⟩ := x
      unfold tV
      simp only at HX ⊢
      have p0 := HC6.out.cell 0 rfl
      have p1 := HC6.out.cell 1 rfl
      have p2 := HC6.out.cell 2 rfl
      have p3 := HC6.out.cell 3 rfl
      have p4 := HC6.out.cell 4 rfl
      have pf := fun j => HC6.out.frozen j
      go_wp2
      have HR5 := ((((HC6.out.set 0 (.int .i64 hh)).set 1 (.int .i64 rr)).set 2 (.int .i64 ss)).set 3 (.string ii)).set 4 (.int .i64 vv)
      have HB5 := ((((HB6.out.setCell (p := ⟨w.heap.size, 0, none⟩) (Nat.le_refl _) (.int .i64 hh)).setCell (p := ⟨w.heap.size, 1, none⟩) (Nat.le_refl _) (.int .i64 rr)).setCell (p := ⟨w.heap.size, 2, none⟩) (Nat.le_refl _) (.int .i64 ss)).setCell (p := ⟨w.heap.size, 3, none⟩) (Nat.le_refl _) (.string ii)).setCell (p := ⟨w.heap.size, 4, none⟩) (Nat.le_refl _) (.int .i64 vv)
      clear p0 p1 p2 p3 p4 pf
      have y0 := HR5.cell 0 rfl
      have y1 := HR5.cell 1 rfl
      have y2 := HR5.cell 2 rfl
      have y3 := HR5.cell 3 rfl
      have y4 := HR5.cell 4 rfl
      refine bodyPost_ret (v := .tuple #[.agg #[.int .i64 hh, .int .i64 rr, .int .i64 ss, .string ii, .int .i64 vv], .string G]) ?_ rfl ⟨⟨hh, rr, ss, ii, vv⟩, G, rfl, HX, HGz, HB5⟩
      generalize (((((w6.setCell _ _).setCell _ _).setCell _ _).setCell _ _).setCell _ _ : World) = W at *
      clear HB5 HR5
      simp [results, Tryd.results7, go_sem, y0, y1, y2, y3, y4]
    · have HGz : Hid (G.size ≤ 1003) := show G.size ≤ 1003 by omega
      have p0 := HC5.out.cell 0 rfl
      have p1 := HC5.out.cell 1 rfl
      have p2 := HC5.out.cell 2 rfl
      have p3 := HC5.out.cell 3 rfl
      have p4 := HC5.out.cell 4 rfl
      have pf := fun j => HC5.out.frozen j
      have q0 : (y == 0) = false := by simp [g0]
      have q1 : (y == 1) = false := by simp [g1]
      have HB6 : Hid (Below w.heap.size w w5) := HB5.out
      clear hgz HB5
      go_wp2
      clear x0 x1 x2 x3 x4
      have HR5 := ((((HC5.out.set 0 (.int .i64 h)).set 1 (.int .i64 r)).set 2 (.int .i64 s)).set 3 (.string i)).set 4 (.int .i64 v)
      have HB5 := ((((HB6.out.setCell (p := ⟨w.heap.size, 0, none⟩) (Nat.le_refl _) (.int .i64 h)).setCell (p := ⟨w.heap.size, 1, none⟩) (Nat.le_refl _) (.int .i64 r)).setCell (p := ⟨w.heap.size, 2, none⟩) (Nat.le_refl _) (.int .i64 s)).setCell (p := ⟨w.heap.size, 3, none⟩) (Nat.le_refl _) (.string i)).setCell (p := ⟨w.heap.size, 4, none⟩) (Nat.le_refl _) (.int .i64 v)
      clear p0 p1 p2 p3 p4 pf
      have y0 := HR5.cell 0 rfl
      have y1 := HR5.cell 1 rfl
      have y2 := HR5.cell 2 rfl
      have y3 := HR5.cell 3 rfl
      have y4 := HR5.cell 4 rfl
      refine bodyPost_ret (v := .tuple #[.agg #[.int .i64 h, .int .i64 r, .int .i64 s, .string i, .int .i64 v], .string G]) ?_ rfl ⟨⟨h, r, s, i, v⟩, G, rfl, HX, HGz, HB5⟩
      generalize (((((w5.setCell _ _).setCell _ _).setCell _ _).setCell _ _).setCell _ _ : World) = W at *
      clear HB5 HR5
      simp [results, Tryd.results7, go_sem, y0, y1, y2, y3, y4]
end Go.Proofs.YtphoafjjilpfdaaDoor
