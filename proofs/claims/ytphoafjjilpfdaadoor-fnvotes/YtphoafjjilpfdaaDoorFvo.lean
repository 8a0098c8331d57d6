/- FnVotes at every code of at most 2 to the 20 bytes: true; old memory stays. Conditions: the table lies where it should. -/
import Derived.Test.YtphoafjjilpfdaaDoorDg
import Derived.Test.YtphoafjjilpfdaaDoorSi
import Derived.Deep.DeepCutAuto
import Derived.Deep.CutBlock
namespace Go.Proofs.YtphoafjjilpfdaaDoor
open Go.RowKit
open Num
set_option linter.unusedVariables false
set_option maxHeartbeats 400000 in
theorem big_any (a : Option Addr) (len cap : Nat) (w : World) (hm : len ≤ 9223372036854775807) :
    Calls Tryd.prog 6 #[.slice a len cap] w fun e w' => e = .returned (.bool (decide ((1048576 : Int) < (len : Int)))) ∧ w' = w := by
  go_enter Tryd.func6, Tryd.ntmps6
  go_wp2
  go_ret
  exact ⟨rfl, rfl⟩
theorem sd_longer {x : Vt} {t : ByteArray} (h : sdB x t = true) : t = sgn x.v (dig x) ∧ sdB x (t ++ ⟨#[120]⟩) = false := by
  have h1 : t = sgn x.v (dig x) := by
    unfold sdB at h
    simp at h; exact h.2
  refine ⟨h1, ?_⟩
  unfold sdB
  rw [decide_eq_false (p := t ++ ⟨#[120]⟩ = sgn x.v (dig x)), Bool.and_false]
  intro e
  rw [← h1] at e
  have h2 := congrArg ByteArray.size e
  rw [ByteArray.size_append] at h2
  have h3 : (⟨#[120]⟩ : ByteArray).size = 1 := rfl
  omega
set_option maxHeartbeats 3200000 in
theorem fn_votes (a : Option Addr) (L : List UInt8) (cap : Nat) (w : World) (hl : CodeAt w w.heap.size a L) (hT : Tab w) (hlen : L.length ≤ 1048576) :
    Calls Tryd.prog 3 #[.slice a L.length cap] w fun e w' => e = .returned (.bool true) ∧ Below w.heap.size w w' := by
  have HL : Hid (CodeAt w w.heap.size a L) := hl
  have HT : Hid (Tab w) := hT
  have kB := big_any a L.length cap w (by omega)
  rw [decide_eq_false (by omega)] at kB
  clear hl hT
  go_enter Tryd.func3, Tryd.ntmps3
  go_wp2_with fail
  refine kB.mono ?_
  clear kB
  rintro e w0 ⟨rfl, rfl⟩
  go_wp2_with fail
  refine (draw_signed a L cap w0 HL.out hlen).mono ?_
  rintro e w1 ⟨x, t, rfl, HX, HZ, HB1⟩
  have kI := fun W (h : Tab W) => impl_sd x t W h
  have kS := fun W => spec_sd x t W
  have HLo : Hid (sdB x t = true → t = sgn x.v (dig x) ∧ sdB x (t ++ ⟨#[120]⟩) = false) := sd_longer
  have KG : Hid (∀ W (h : Tab W), Calls Tryd.prog 10 #[.int .i64 x.v, .string (dig x)] W fun e w' => e = .returned (.string (sgn x.v (dig x))) ∧ Below W.heap.size W w') := fun W h => impl_sgn x.v (dig x) W (by have := dig_size x; omega) h
  have KD : Hid (∀ W, Calls Tryd.prog 11 #[tV x] W fun e w' => e = .returned (.string (dig x)) ∧ Below W.heap.size W w') := fun W => impl_dig x W
  generalize sdB x t = is at *
  obtain ⟨lx, hlx⟩ : ∃ q, q = sdB x (t ++ ⟨#[120]⟩) := ⟨_, rfl⟩
  rw [← hlx] at HLo
  have HLX : Hid (lx = sdB x (t ++ ⟨#[120]⟩)) := hlx
  clear hlx
  generalize sgn x.v (dig x) = G at *
  generalize dig x = D at *
  obtain ⟨h, r, s, i, v⟩ := x
  unfold tV at *
  simp only at kI kS KG KD HX HLX ⊢
  obtain ⟨r0, r1, v0, v1, _⟩ := HX.out
  have HV2 : Hid (Blk (w1.alloc (.cells [.int .i64 h, .int .i64 r, .int .i64 s, .string i, .int .i64 v].toArray 25)) w1.heap.size [.int .i64 h, .int .i64 r, .int .i64 s, .string i, .int .i64 v] 25) := blk_new w1 _ _
  have HB2 : Hid (Below w0.heap.size w0 (w1.alloc (.cells [.int .i64 h, .int .i64 r, .int .i64 s, .string i, .int .i64 v].toArray 25))) := HB1.out.alloc HB1.out.size _
  go_wp2_with fail
  generalize w1.alloc (Obj.cells #[Value.int .i64 h, Value.int .i64 r, Value.int .i64 s, Value.string i, Value.int .i64 v] 25) = w2 at *
  generalize w1.heap.size = b at *
  refine (kI _ (HT.out.below HB2.out HT.out.pos)).mono ?_
  rintro e w3 ⟨rfl, b3⟩
  have HV3 : Hid (Blk w3 b [.int .i64 h, .int .i64 r, .int .i64 s, .string i, .int .i64 v] 25) := HV2.out.below b3 HV2.out.lt
  have HB3 : Hid (Below w0.heap.size w0 w3) := HB2.out.trans (b3.mono HB2.out.size)
  clear HV2 HB2 b3 kI HB1
  have x0 := HV3.out.cell 0 rfl
  have x1 := HV3.out.cell 1 rfl
  have x2 := HV3.out.cell 2 rfl
  have x3 := HV3.out.cell 3 rfl
  have x4 := HV3.out.cell 4 rfl
  go_wp2_with fail
  refine (kS _).mono ?_
  rintro e w4 ⟨rfl, b4⟩
  have HV4 : Hid (Blk w4 b [.int .i64 h, .int .i64 r, .int .i64 s, .string i, .int .i64 v] 25) := HV3.out.below b4 HV3.out.lt
  have HB4 : Hid (Below w0.heap.size w0 w4) := HB3.out.trans (b4.mono HB3.out.size)
  clear HV3 HB3 b4 kS x0 x1 x2 x3 x4
  have x0 := HV4.out.cell 0 rfl
  have x1 := HV4.out.cell 1 rfl
  have x2 := HV4.out.cell 2 rfl
  have x3 := HV4.out.cell 3 rfl
  have x4 := HV4.out.cell 4 rfl
  have hbl := HV4.out.lt
  obtain ⟨o1, ho1⟩ : ∃ o : Obj, (Obj.cells #[Value.int .i64 h, Value.int .i64 (r + 1), Value.int .i64 s, Value.string i, Value.int .i64 v] 25) = o := ⟨_, rfl⟩
  obtain ⟨o2, ho2⟩ : ∃ o : Obj, (Obj.cells #[Value.int .i64 h, Value.int .i64 r, Value.int .i64 s, Value.string i, Value.int .i64 (1 + v % 99)] 25) = o := ⟨_, rfl⟩
  have HA5 : Hid (Blk ((w4.alloc o1).alloc o2) w4.heap.size [.int .i64 h, .int .i64 (r + 1), .int .i64 s, .string i, .int .i64 v] 25) := by
    show Blk _ _ _ _
    refine Blk.alloc ?_ o2
    rw [← ho1]
    exact blk_new w4 [.int .i64 h, .int .i64 (r + 1), .int .i64 s, .string i, .int .i64 v] 25
  have HC5 : Hid (Blk ((w4.alloc o1).alloc o2) (w4.heap.size + 1) [.int .i64 h, .int .i64 r, .int .i64 s, .string i, .int .i64 (1 + v % 99)] 25) := by
    show Blk _ _ _ _
    have e : (w4.alloc o1).heap.size = w4.heap.size + 1 := by simp
    rw [← ho2, ← e]
    exact blk_new (w4.alloc o1) [.int .i64 h, .int .i64 r, .int .i64 s, .string i, .int .i64 (1 + v % 99)] 25
  have HV5 : Hid (Blk ((w4.alloc o1).alloc o2) b [.int .i64 h, .int .i64 r, .int .i64 s, .string i, .int .i64 v] 25) := (HV4.out.alloc _).alloc _
  have HB5 : Hid (Below w0.heap.size w0 ((w4.alloc o1).alloc o2)) := (HB4.out.alloc HB4.out.size _).alloc (HB4.out.alloc HB4.out.size o1).size _
  have HQ : Hid (lx = sdB ⟨h, r, s, i, v⟩ (t ++ ⟨#[120]⟩)) := HLX.out
  clear HLX
  have KI : Hid (∀ (h r s v : Int) (i t : ByteArray) (W : World) (h' : Tab W), Calls Tryd.prog 8 #[.agg #[.int .i64 h, .int .i64 r, .int .i64 s, .string i, .int .i64 v], .string t] W fun e w' => e = .returned (.bool (sdB ⟨h, r, s, i, v⟩ t)) ∧ Below W.heap.size W w') := fun h r s v i t W h' => impl_sd ⟨h, r, s, i, v⟩ t W h'
  have KS : Hid (∀ (h r s v : Int) (i t : ByteArray) (W : World), Calls Tryd.prog 9 #[.agg #[.int .i64 h, .int .i64 r, .int .i64 s, .string i, .int .i64 v], .string t] W fun e w' => e = .returned (.bool (sdB ⟨h, r, s, i, v⟩ t)) ∧ Below W.heap.size W w') := fun h r s v i t W => spec_sd ⟨h, r, s, i, v⟩ t W
  generalize sdB = Q at *
  clear HX HV4 HB4
  have HO1 : Hid (Obj.cells #[Value.int .i64 h, Value.int .i64 (r + 1), Value.int .i64 s, Value.string i, Value.int .i64 v] 25 = o1) := ho1
  have HO2 : Hid (Obj.cells #[Value.int .i64 h, Value.int .i64 r, Value.int .i64 s, Value.string i, Value.int .i64 (1 + v % 99)] 25 = o2) := ho2
  clear ho1 ho2
  cases is
  · go_upto_region 11 with fail
    rw [HO1.out, HO2.out]
    clear x0 x1 x2 x3 x4 hbl HO1 HO2
    generalize (w4.alloc o1).alloc o2 = w5 at *
    generalize w4.heap.size = ba at *
    generalize 1 + v % 99 = vb at *
    generalize r + 1 = ra at *
    have hne := bel_some w5
    have HT5 : Hid (Tab w5) := HT.out.below HB5.out HT.out.pos
    have c0 := fun p : Bel w5 => p.cell (HV5.out.cell 0 rfl)
    have c1 := fun p : Bel w5 => p.cell (HV5.out.cell 1 rfl)
    have c2 := fun p : Bel w5 => p.cell (HV5.out.cell 2 rfl)
    have c3 := fun p : Bel w5 => p.cell (HV5.out.cell 3 rfl)
    have c4 := fun p : Bel w5 => p.cell (HV5.out.cell 4 rfl)
    have d0 := fun p : Bel w5 => p.cell (HA5.out.cell 0 rfl)
    have d1 := fun p : Bel w5 => p.cell (HA5.out.cell 1 rfl)
    have d2 := fun p : Bel w5 => p.cell (HA5.out.cell 2 rfl)
    have d3 := fun p : Bel w5 => p.cell (HA5.out.cell 3 rfl)
    have d4 := fun p : Bel w5 => p.cell (HA5.out.cell 4 rfl)
    have f0 := fun p : Bel w5 => p.cell (HC5.out.cell 0 rfl)
    have f1 := fun p : Bel w5 => p.cell (HC5.out.cell 1 rfl)
    have f2 := fun p : Bel w5 => p.cell (HC5.out.cell 2 rfl)
    have f3 := fun p : Bel w5 => p.cell (HC5.out.cell 3 rfl)
    have f4 := fun p : Bel w5 => p.cell (HC5.out.cell 4 rfl)
    refine wp_region_below (by kernel_rfl) (by kernel_rfl) ?_
    repeat (go_big_quiet_step (fail))
    refine wpQuiet_nil ?_
    intro _ hw'
    obtain ⟨pq, hw''⟩ := hw'
    subst hw''
    have HB6 : Hid (Below w0.heap.size w0 pq.W) := HB5.out.trans (pq.h.mono HB5.out.size)
    go_wp2
    go_ret
    exact ⟨rfl, HB6.out⟩
  · obtain ⟨e1, e2⟩ := HLo.out rfl
    subst e1
    subst e2
    have hq : Q ⟨h, r, s, i, v⟩ (t ++ ⟨#[120]⟩) = false := HQ.out.symm
    go_upto_region 11 with fail
    rw [HO1.out, HO2.out]
    clear x0 x1 x2 x3 x4 hbl HO1 HO2
    generalize (w4.alloc o1).alloc o2 = w5 at *
    generalize w4.heap.size = ba at *
    generalize 1 + v % 99 = vb at *
    generalize r + 1 = ra at *
    have hne := bel_some w5
    have HT5 : Hid (Tab w5) := HT.out.below HB5.out HT.out.pos
    have c0 := fun p : Bel w5 => p.cell (HV5.out.cell 0 rfl)
    have c1 := fun p : Bel w5 => p.cell (HV5.out.cell 1 rfl)
    have c2 := fun p : Bel w5 => p.cell (HV5.out.cell 2 rfl)
    have c3 := fun p : Bel w5 => p.cell (HV5.out.cell 3 rfl)
    have c4 := fun p : Bel w5 => p.cell (HV5.out.cell 4 rfl)
    have d0 := fun p : Bel w5 => p.cell (HA5.out.cell 0 rfl)
    have d1 := fun p : Bel w5 => p.cell (HA5.out.cell 1 rfl)
    have d2 := fun p : Bel w5 => p.cell (HA5.out.cell 2 rfl)
    have d3 := fun p : Bel w5 => p.cell (HA5.out.cell 3 rfl)
    have d4 := fun p : Bel w5 => p.cell (HA5.out.cell 4 rfl)
    have f0 := fun p : Bel w5 => p.cell (HC5.out.cell 0 rfl)
    have f1 := fun p : Bel w5 => p.cell (HC5.out.cell 1 rfl)
    have f2 := fun p : Bel w5 => p.cell (HC5.out.cell 2 rfl)
    have f3 := fun p : Bel w5 => p.cell (HC5.out.cell 3 rfl)
    have f4 := fun p : Bel w5 => p.cell (HC5.out.cell 4 rfl)
    have hz := HZ.out
    have m1 : ¬ 9223372036854775807 < t.size + 1 := by omega
    have m2 : ¬ 9223372036854775807 < t.size + (⟨#[120]⟩ : ByteArray).size := by show ¬ 9223372036854775807 < t.size + 1; omega
    clear hz
    refine wp_region_below (by kernel_rfl) (by kernel_rfl) ?_
    repeat (go_big_quiet_step (first | (go_at_call 8; exact bel_of (KI.out _ _ _ _ _ _ _ (HT5.out.below (Bel.h _) HT5.out.pos))) | (go_at_call 9; exact bel_of (KS.out _ _ _ _ _ _ _)) | (go_at_call 11; exact bel_of (KD.out _)) | (go_at_call 10; exact bel_of (KG.out _ (HT5.out.below (Bel.h _) HT5.out.pos)))))
    refine wpQuiet_nil ?_
    intro _ hw'
    obtain ⟨pq, hw''⟩ := hw'
    subst hw''
    have HB6 : Hid (Below w0.heap.size w0 pq.W) := HB5.out.trans (pq.h.mono HB5.out.size)
    go_wp2
    go_ret
    exact ⟨rfl, HB6.out⟩
end Go.Proofs.YtphoafjjilpfdaaDoor
