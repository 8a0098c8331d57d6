/- The walks of the exact laws of FindEvid and Blame: they answer true, old memory stays. Conditions: what a machine can hold, the table of the hash. -/
import Derived.Test.YtclajbadeclbdaaDoorLr
import Derived.Test.YtclajbadeclbdaaDoorEf
import Derived.Test.YtclajbadeclbdaaDoorLji
namespace Go.Proofs.YtclajbadeclbdaaDoor
open Go.RowKit
open Num
set_option linter.unusedVariables false
theorem NumsO.up {w w' : World} {a : Option Addr} {l : List Int} {r : Option Nat} {B : Nat} (h : NumsO w a l) (hg : w.grownBy w' r) (ha : ∀ b o, a = some ⟨b, o, none⟩ → B ≤ b) (hB : ∀ j, r = some j → j < B) : NumsO w' a l := by
  rcases h with h | ⟨b, o, rfl, h2⟩
  · exact .inl h
  · refine .inr ⟨b, o, rfl, fun j hj => ?_⟩
    have h3 := h2 j hj
    have hlt := World.block_lt_of_cell? w _ h3
    have hbl := hg.block b hlt (fun e => by have := ha b o rfl; have := hB b e.symm; omega)
    rw [World.cell?_of_block (w := w) (a := ⟨b, o + j, none⟩) hbl]; exact h3
theorem held_intsB (a : Option Addr) (cap n k : Nat) (w : World) (hv : NumsO w a (ims k n)) (hn : n ≤ 1048576) (hk : k ≤ 1048576) :
    Calls Tryd.prog 28 #[.slice a n cap, .int .i64 (k : Int)] w fun e w' => e = .returned (.int .i64 ((k + n : Nat) : Int)) ∧ Below w.heap.size w w' :=
  (held_ints a cap n k w hv hn hk).mono fun e w' hh => ⟨hh.1, by rw [hh.2]; exact Below.refl _ _⟩
theorem oV_is (o : Option (Sv × Sv)) : ∃ a b : Sv, oV o = eV a b := by
  cases o with
  | none => exact ⟨zSv, zSv, rfl⟩
  | some u => exact ⟨u.1, u.2, rfl⟩
set_option maxHeartbeats 3200000 in
set_option maxRecDepth 100000 in
theorem w_find (a : Option Addr) (l : List Sv) (cap : Nat) (z : Int) (w : World) (hl : YO w a l) (hlen : l.length ≤ 9223372036854775807) (hs : ∀ y ∈ l, SzY y) (hT : Tab w) :
    Calls Tryd.prog 7 #[.slice a l.length cap, .int .i64 z] w fun e w' => e = .returned (.bool true) ∧ Below w.heap.size w w' := by
  have HL : Hid (YO w a l) := hl
  have HTa : Hid (Tab w) := hT
  have kZ := fun W (h : YO W a l) => szs_y a l cap 1048576 W h hlen hs (by decide) (by decide)
  have kT := fun W (h : YO W a l) (hq : l.length ≤ 1048576) => to_row a l cap W h hq
  have kA := fun (u : Option Addr) W (h : YO W u l) => spec_find u l l.length z W h hlen
  have kB := fun (u : Option Addr) W (h : YO W u l) (hq : l.length ≤ 1048576) (hm : ∀ y ∈ l, SmY y) (hT : Tab W) => impl_find u l l.length z W h hq hm hT
  have kQ := fun (u v : Option Addr) W (h : YO W u l) (h' : YO W v l) (hq : l.length ≤ 1099511627776) => eqs_y u v l l.length l.length W h h' hq
  obtain ⟨a1, b1, hoe⟩ := oV_is (fe l z)
  have kE := fun W => eq_ev a1 b1 W
  rw [hoe] at kA kB
  clear hl hT hs hoe
  generalize (fe l z).isSome = t at *
  obtain ⟨⟨h, r, s, i, v⟩, g⟩ := a1
  obtain ⟨⟨h', r', s', i', v'⟩, g'⟩ := b1
  unfold eV at *
  simp only at kA kB kE
  go_enter Tryd.func7, Tryd.ntmps7
  go_wp2_with fail
  refine (kZ _ HL.out).mono ?_
  rintro e w1 ⟨q, rfl, HQ, b1⟩
  have HB1 : Hid (Below w.heap.size w w1) := b1
  clear b1 kZ
  by_cases hq : q < 0
  · go_wp2
    go_ret
    exact ⟨rfl, HB1.out⟩
  have HSm : Hid (l.length ≤ 1048576 ∧ ∀ y ∈ l, SmY y) := HQ.out (by omega)
  have hl20 : l.length ≤ 1048576 := HSm.out.1
  have hl40 : l.length ≤ 1099511627776 := by omega
  clear HQ
  go_wp2_with fail
  refine (kT _ (HL.out.below HB1.out) hl20).mono ?_
  rintro e w2 ⟨u2, rfl, HU2, b2⟩
  have HB2 : Hid (Below w.heap.size w w2) := HB1.out.trans (b2.mono HB1.out.size)
  clear b2 HB1
  go_wp2_with fail
  refine (kA u2 _ HU2.out.o).mono ?_
  rintro e w3 ⟨rfl, b3⟩
  have HB3 : Hid (Below w.heap.size w w3) := HB2.out.trans (b3.mono HB2.out.size)
  clear b3 HB2 HU2
  obtain ⟨wa, hwa⟩ : ∃ W, w3.alloc (.cells [.int .i64 h, .int .i64 r, .int .i64 s, .string i, .int .i64 v, .string g, .int .i64 h', .int .i64 r', .int .i64 s', .string i', .int .i64 v', .string g'].toArray 34) = W := ⟨_, rfl⟩
  have HX : Hid (Blk wa w3.heap.size [.int .i64 h, .int .i64 r, .int .i64 s, .string i, .int .i64 v, .string g, .int .i64 h', .int .i64 r', .int .i64 s', .string i', .int .i64 v', .string g'] 34) := by rw [← hwa]; exact blk_new w3 _ _
  have HBa : Hid (Below w.heap.size w wa) := by rw [← hwa]; exact HB3.out.alloc HB3.out.size _
  have h3 : w.heap.size ≤ w3.heap.size := HB3.out.size
  clear HB3
  go_wp2_with fail
  clear hwa
  refine (kT _ (HL.out.below HBa.out) hl20).mono ?_
  rintro e w4 ⟨u4, rfl, HU4, b4⟩
  have HX4 : Hid (Blk w4 w3.heap.size [.int .i64 h, .int .i64 r, .int .i64 s, .string i, .int .i64 v, .string g, .int .i64 h', .int .i64 r', .int .i64 s', .string i', .int .i64 v', .string g'] 34) := HX.out.below b4 HX.out.lt
  have HB4 : Hid (Below w.heap.size w w4) := HBa.out.trans (b4.mono HBa.out.size)
  clear b4 HX HBa
  go_wp2_with fail
  refine (kB u4 _ HU4.out.o hl20 HSm.out.2 (HTa.out.below HB4.out HTa.out.pos)).mono ?_
  rintro e w5 ⟨rfl, b5⟩
  have HX5 : Hid (Blk w5 w3.heap.size [.int .i64 h, .int .i64 r, .int .i64 s, .string i, .int .i64 v, .string g, .int .i64 h', .int .i64 r', .int .i64 s', .string i', .int .i64 v', .string g'] 34) := HX4.out.below b5 HX4.out.lt
  have HU5 : Hid (Yop w5 wa.heap.size l u4) := HU4.out.below b5
  have HB5 : Hid (Below w.heap.size w w5) := HB4.out.trans (b5.mono HB4.out.size)
  clear b5 HX4 HU4 HB4
  obtain ⟨wb, hwb⟩ : ∃ W, w5.alloc (.cells [.int .i64 h, .int .i64 r, .int .i64 s, .string i, .int .i64 v, .string g, .int .i64 h', .int .i64 r', .int .i64 s', .string i', .int .i64 v', .string g'].toArray 34) = W := ⟨_, rfl⟩
  have HX6 : Hid (Blk wb w3.heap.size [.int .i64 h, .int .i64 r, .int .i64 s, .string i, .int .i64 v, .string g, .int .i64 h', .int .i64 r', .int .i64 s', .string i', .int .i64 v', .string g'] 34) := by rw [← hwb]; exact HX5.out.alloc _
  have HY6 : Hid (Blk wb w5.heap.size [.int .i64 h, .int .i64 r, .int .i64 s, .string i, .int .i64 v, .string g, .int .i64 h', .int .i64 r', .int .i64 s', .string i', .int .i64 v', .string g'] 34) := by rw [← hwb]; exact blk_new w5 _ _
  have HU6 : Hid (Yop wb wa.heap.size l u4) := by rw [← hwb]; exact HU5.out.below (below_one _ _)
  have HB6 : Hid (Below w.heap.size w wb) := by rw [← hwb]; exact HB5.out.alloc HB5.out.size _
  clear HX5 HU5 HB5
  have x0 := HX6.out.cell 0 rfl
  have y0 := HY6.out.cell 0 rfl
  have x1 := HX6.out.cell 1 rfl
  have y1 := HY6.out.cell 1 rfl
  have x2 := HX6.out.cell 2 rfl
  have y2 := HY6.out.cell 2 rfl
  have x3 := HX6.out.cell 3 rfl
  have y3 := HY6.out.cell 3 rfl
  have x4 := HX6.out.cell 4 rfl
  have y4 := HY6.out.cell 4 rfl
  have x5 := HX6.out.cell 5 rfl
  have y5 := HY6.out.cell 5 rfl
  have x6 := HX6.out.cell 6 rfl
  have y6 := HY6.out.cell 6 rfl
  have x7 := HX6.out.cell 7 rfl
  have y7 := HY6.out.cell 7 rfl
  have x8 := HX6.out.cell 8 rfl
  have y8 := HY6.out.cell 8 rfl
  have x9 := HX6.out.cell 9 rfl
  have y9 := HY6.out.cell 9 rfl
  have x10 := HX6.out.cell 10 rfl
  have y10 := HY6.out.cell 10 rfl
  have x11 := HX6.out.cell 11 rfl
  have y11 := HY6.out.cell 11 rfl
  go_wp2_with fail
  clear x0 y0 x1 y1 x2 y2 x3 y3 x4 y4 x5 y5 x6 y6 x7 y7 x8 y8 x9 y9 x10 y10 x11 y11 hwb
  refine (kE _).mono ?_
  rintro e w7 ⟨rfl, b7⟩
  have HU7 : Hid (Yop w7 wa.heap.size l u4) := HU6.out.below b7
  have HB7 : Hid (Below w.heap.size w w7) := HB6.out.trans (b7.mono HB6.out.size)
  clear b7 HX6 HY6 HU6 HB6
  go_wp2_with fail
  refine (kT _ (HL.out.below HB7.out) hl20).mono ?_
  rintro e w8 ⟨u8, rfl, HU8, b8⟩
  have HU78 : Hid (Yop w8 wa.heap.size l u4) := HU7.out.below b8
  have HB8 : Hid (Below w.heap.size w w8) := HB7.out.trans (b8.mono HB7.out.size)
  clear b8 HU7 HB7
  go_wp2_with fail
  refine (kQ u4 u8 _ HU78.out.o HU8.out.o hl40).mono ?_
  rintro e w9 ⟨rfl, b9⟩
  have HB9 : Hid (Below w.heap.size w w9) := HB8.out.trans (b9.mono HB8.out.size)
  clear b9 HU78 HU8 HB8
  go_wp2
  go_ret
  exact ⟨rfl, HB9.out⟩
set_option maxHeartbeats 3200000 in
set_option maxRecDepth 100000 in
theorem w_blame (a : Option Addr) (l : List Sv) (cap : Nat) (w : World) (hl : YO w a l) (hlen : l.length ≤ 9223372036854775807) (hs : ∀ y ∈ l, SzY y) (hT : Tab w) :
    Calls Tryd.prog 6 #[.slice a l.length cap] w fun e w' => e = .returned (.bool true) ∧ Below w.heap.size w w' := by
  have HL : Hid (YO w a l) := hl
  have HTa : Hid (Tab w) := hT
  have kZ := fun W (h : YO W a l) => szs_y a l cap 1048576 W h hlen hs (by decide) (by decide)
  have kT := fun W (h : YO W a l) (hq : l.length ≤ 1048576) => to_row a l cap W h hq
  have kA := fun (u : Option Addr) W (h : YO W u l) => spec_blame u l l.length W h hlen
  have kB := fun (u : Option Addr) W (h : YO W u l) (hq : l.length ≤ 1048576) (hT : Tab W) => impl_blame u l l.length W h hq hT
  have kQ := fun (u v : Option Addr) W (h : YO W u l) (h' : YO W v l) (hq : l.length ≤ 1099511627776) => eqs_y u v l l.length l.length W h h' hq
  have kM := fun (b : Nat) W (h : Room W b 0 (l.length * 6)) (hq : l.length ≤ 1048576) => mark_y b l.length l.length 1 W h hq (by decide) (by decide)
  have hzl : (bl l).length ≤ 1048576 := by have := bl_len l; omega
  generalize bl l = Z at *
  have kI := fun (u v : Option Addr) (c d : Nat) W (h : NumsO W u Z) (h' : NumsO W v Z) => eq_ints u v Z c d W h h' hzl
  have kMI := fun (u : Option Addr) (c B : Nat) W (h : MkI W B u Z.length) => mark_rowI u c Z.length 1 B W h hzl (by decide)
  have kHI := fun (u : Option Addr) (c : Nat) W (h : NumsO W u (ims 1 Z.length)) => held_intsB u c Z.length 1 W h hzl (by decide)
  obtain ⟨KI, hKI⟩ : ∃ K : Int, ((1 + Z.length : Nat) : Int) = K := ⟨_, rfl⟩
  have hKI0 : ¬ KI < 0 := by omega
  rw [hKI] at kMI kHI
  have k1 : ((1 : Nat) : Int) = 1 := rfl
  rw [k1] at kM kMI kHI
  clear k1 hKI hl hT hs
  go_enter Tryd.func6, Tryd.ntmps6
  go_wp2_with fail
  refine (kZ _ HL.out).mono ?_
  rintro e w1 ⟨q, rfl, HQ, b1⟩
  have HB1 : Hid (Below w.heap.size w w1) := b1
  clear b1 kZ
  by_cases hq : q < 0
  · go_wp2
    go_ret
    exact ⟨rfl, HB1.out⟩
  have HSm : Hid (l.length ≤ 1048576 ∧ ∀ y ∈ l, SmY y) := HQ.out (by omega)
  have hl20 : l.length ≤ 1048576 := HSm.out.1
  have hl40 : l.length ≤ 1099511627776 := by omega
  clear HQ HSm
  go_wp2_with fail
  refine (kT _ (HL.out.below HB1.out) hl20).mono ?_
  rintro e w2 ⟨u2, rfl, HU2, b2⟩
  have HB2 : Hid (Below w.heap.size w w2) := HB1.out.trans (b2.mono HB1.out.size)
  clear b2 HB1
  go_wp2_with fail
  refine (kA u2 _ HU2.out.o).mono ?_
  rintro e w3 ⟨q3, rfl, h3, b3⟩
  obtain ⟨a3, c3, rfl, hN3, hb3, _⟩ := OwnI.sl h3
  have HN3 : Hid (NumsO w3 a3 Z) := hN3
  have HA3 : Hid (∀ b o, a3 = some ⟨b, o, none⟩ → b < w3.heap.size) := fun b o e => (hb3 b o e).2
  have HB3 : Hid (Below w.heap.size w w3) := HB2.out.trans (b3.mono HB2.out.size)
  have hw3 : w.heap.size ≤ w3.heap.size := HB3.out.size
  clear b3 HB2 HU2 h3 hN3 hb3
  go_wp2_with fail
  refine (kT _ (HL.out.below HB3.out) hl20).mono ?_
  rintro e w4 ⟨u4, rfl, HU4, b4⟩
  have HN4 : Hid (NumsO w4 a3 Z) := HN3.out.below b4
  have HB4 : Hid (Below w.heap.size w w4) := HB3.out.trans (b4.mono HB3.out.size)
  have h34 : w3.heap.size ≤ w4.heap.size := b4.size
  clear b4 HB3 HN3
  go_wp2_with fail
  refine (kB u4 _ HU4.out.o hl20 (HTa.out.below HB4.out HTa.out.pos)).mono ?_
  rintro e w5 ⟨q5, rfl, h5, b5⟩
  obtain ⟨a5, c5, rfl, hN5, hb5, hM5⟩ := OwnI.sl h5
  have HN5 : Hid (NumsO w5 a5 Z) := hN5
  have HM5 : Hid (MkI w5 w4.heap.size a5 Z.length) := hM5
  have HA5 : Hid (∀ b o, a5 = some ⟨b, o, none⟩ → w4.heap.size ≤ b ∧ b < w5.heap.size) := hb5
  have HN35 : Hid (NumsO w5 a3 Z) := HN4.out.below b5
  have HU5 : Hid (Yop w5 w3.heap.size l u4) := HU4.out.below b5
  have HB5 : Hid (Below w.heap.size w w5) := HB4.out.trans (b5.mono HB4.out.size)
  have HUlt : Hid (∀ j, u4 = some ⟨j, 0, none⟩ → w3.heap.size ≤ j ∧ j < w4.heap.size) := fun j e => by
    obtain ⟨b, e', h1, h2, _⟩ := HU4.out
    rw [e'] at e; injection e with e; injection e with e1 _; subst e1; exact ⟨h1, h2⟩
  clear b5 HB4 HN4 HU4 h5 hN5 hb5 hM5
  go_wp2_with fail
  refine (kI a5 a3 c5 c3 _ HN5.out HN35.out).mono ?_
  rintro e w6 ⟨rfl, b6⟩
  have HN6 : Hid (NumsO w6 a5 Z) := HN5.out.below b6
  have HN36 : Hid (NumsO w6 a3 Z) := HN35.out.below b6
  have HM6 : Hid (MkI w6 w4.heap.size a5 Z.length) := HM5.out.below b6
  have HU6 : Hid (Yop w6 w3.heap.size l u4) := HU5.out.below b6
  have HB6 : Hid (Below w.heap.size w w6) := HB5.out.trans (b6.mono HB5.out.size)
  clear b6 HN5 HN35 HM5 HU5 HB5
  go_wp2_with fail
  refine (kT _ (HL.out.below HB6.out) hl20).mono ?_
  rintro e w7 ⟨u7, rfl, HU7, b7⟩
  have HN7 : Hid (NumsO w7 a5 Z) := HN6.out.below b7
  have HN37 : Hid (NumsO w7 a3 Z) := HN36.out.below b7
  have HM7 : Hid (MkI w7 w4.heap.size a5 Z.length) := HM6.out.below b7
  have HU47 : Hid (Yop w7 w3.heap.size l u4) := HU6.out.below b7
  have HB7 : Hid (Below w.heap.size w w7) := HB6.out.trans (b7.mono HB6.out.size)
  clear b7 HN6 HN36 HM6 HU6 HB6
  go_wp2_with fail
  refine (kQ u4 u7 _ HU47.out.o HU7.out.o hl40).mono ?_
  rintro e w8 ⟨rfl, b8⟩
  have HN8 : Hid (NumsO w8 a5 Z) := HN7.out.below b8
  have HN38 : Hid (NumsO w8 a3 Z) := HN37.out.below b8
  have HM8 : Hid (MkI w8 w4.heap.size a5 Z.length) := HM7.out.below b8
  have HU8 : Hid (Yop w8 w3.heap.size l u4) := HU47.out.below b8
  have HB8 : Hid (Below w.heap.size w w8) := HB7.out.trans (b8.mono HB7.out.size)
  clear b8 HN7 HN37 HM7 HU47 HU7 HB7
  obtain ⟨m4, rfl, hm1, hm2, hmA, hmR⟩ := HU8.out
  have hm4 : m4 < w4.heap.size := (HUlt.out m4 rfl).2
  go_wp2_with fail
  refine (kM m4 _ hmR hl20).mono ?_
  rintro e w9 ⟨q9, rfl, hq9, hg9⟩
  have HN9 : Hid (NumsO w9 a5 Z) := NumsO.up HN8.out hg9 (fun b o e => (HA5.out b o e).1) (fun j e => by injection e; omega)
  have HN39 : Hid (NumsO w9 a3 Z) := NumsO.far HN38.out hg9 (B := w3.heap.size) (fun b o e => HA3.out b o e) (fun j e => by injection e; omega)
  have HM9 : Hid (MkI w9 w4.heap.size a5 Z.length) := MkI.far HM8.out hg9 (fun j e => by injection e; omega)
  have HB9 : Hid (Below w.heap.size w w9) := HB8.out.grown hg9 HB8.out.size (fun j e => by injection e; omega)
  clear hg9 HN8 HN38 HM8 HU8 HB8 hmA hmR hm1 hm2
  have hq9n : ¬ q9 < 0 := by omega
  go_wp2_with fail
  refine (kI a5 a3 c5 c3 _ HN9.out HN39.out).mono ?_
  rintro e x1 ⟨rfl, b1⟩
  have HM10 : Hid (MkI x1 w4.heap.size a5 Z.length) := HM9.out.below b1
  have HN310 : Hid (NumsO x1 a3 Z) := HN39.out.below b1
  have HB10 : Hid (Below w.heap.size w x1) := HB9.out.trans (b1.mono HB9.out.size)
  clear b1 HN9 HN39 HM9 HB9
  go_wp2_with fail
  refine (kMI a5 c5 w4.heap.size _ HM10.out).mono ?_
  rintro e x2 ⟨rfl, hI2, r2, hr2, hg2⟩
  have HI2 : Hid (NumsO x2 a5 (ims 1 Z.length)) := hI2
  have HN32 : Hid (NumsO x2 a3 Z) := NumsO.far HN310.out hg2 (B := w3.heap.size) (fun b o e => HA3.out b o e) (fun j e => by have := (hr2 j e).1; omega)
  have HB12 : Hid (Below w.heap.size w x2) := HB10.out.grown hg2 HB10.out.size (fun j e => by have := (hr2 j e).1; omega)
  clear hI2 hr2 hg2 HM10 HN310 HB10
  go_wp2_with fail
  refine (kHI a5 c5 _ HI2.out).mono ?_
  rintro e x3 ⟨rfl, b3⟩
  have HI3 : Hid (NumsO x3 a5 (ims 1 Z.length)) := HI2.out.below b3
  have HN33 : Hid (NumsO x3 a3 Z) := HN32.out.below b3
  have HB13 : Hid (Below w.heap.size w x3) := HB12.out.trans (b3.mono HB12.out.size)
  clear b3 HI2 HN32 HB12
  go_wp2_with fail
  refine (kT _ (HL.out.below HB13.out) hl20).mono ?_
  rintro e x4 ⟨u9, rfl, HU9, b4⟩
  have HI4 : Hid (NumsO x4 a5 (ims 1 Z.length)) := HI3.out.below b4
  have HN34 : Hid (NumsO x4 a3 Z) := HN33.out.below b4
  have HB14 : Hid (Below w.heap.size w x4) := HB13.out.trans (b4.mono HB13.out.size)
  clear b4 HI3 HN33 HB13
  go_wp2_with fail
  refine (kB u9 _ HU9.out.o hl20 (HTa.out.below HB14.out HTa.out.pos)).mono ?_
  rintro e x5 ⟨q6, rfl, h6, b5⟩
  obtain ⟨a6, c6, rfl, hN6, _, _⟩ := OwnI.sl h6
  have HN65 : Hid (NumsO x5 a6 Z) := hN6
  have HI5 : Hid (NumsO x5 a5 (ims 1 Z.length)) := HI4.out.below b5
  have HN35 : Hid (NumsO x5 a3 Z) := HN34.out.below b5
  have HB15 : Hid (Below w.heap.size w x5) := HB14.out.trans (b5.mono HB14.out.size)
  clear b5 HI4 HN34 HB14 HU9 h6 hN6
  go_wp2_with fail
  refine (kI a6 a3 c6 c3 _ HN65.out HN35.out).mono ?_
  rintro e x6 ⟨rfl, b6⟩
  have HI6 : Hid (NumsO x6 a5 (ims 1 Z.length)) := HI5.out.below b6
  have HB16 : Hid (Below w.heap.size w x6) := HB15.out.trans (b6.mono HB15.out.size)
  clear b6 HI5 HN35 HB15 HN65
  go_wp2_with fail
  refine (kHI a5 c5 _ HI6.out).mono ?_
  rintro e x7 ⟨rfl, b7⟩
  have HB17 : Hid (Below w.heap.size w x7) := HB16.out.trans (b7.mono HB16.out.size)
  clear b7 HI6 HB16
  go_wp2
  go_ret
  exact ⟨rfl, HB17.out⟩
end Go.Proofs.YtclajbadeclbdaaDoor
