/- What cmp.Compare, cmp.Or and the two MaySign answer; old memory stays. Conditions: none of ours. -/
import Derived.Test.YtmjlpdmdpagggaaGd
import Derived.Deep.RegionHeld3
namespace Go.Proofs.Ytmjlpdmdpagggaa
open Go.RowKit
open Num
set_option linter.unusedVariables false
def cmpI (x y : Int) : Int := if x < y then -1 else if y < x then 1 else 0
def or3 (x y z : Int) : Int := if x = 0 then (if y = 0 then z else y) else x
/-- By height, round, step; then by the id. -/
def may3 (a b c a' b' c' : Int) (same : Bool) : Int :=
  if a' < a then 0 else if a < a' then 2 else if b' < b then 0 else if b < b' then 2 else if c' < c then 0 else if c < c' then 2 else if same = true then 1 else 3
def mayS (g : Gt) (x : Vt) : Int := bif gOk g && voB x then may3 x.h x.r x.s g.h g.r g.s (decide (x.i = g.i)) else 2
set_option maxHeartbeats 400000 in
set_option maxRecDepth 100000 in
theorem impl_nan (x : Int) (w : World) :
    Calls Try.prog 76 #[.int .i64 x] w fun e w' => e = .returned (.bool false) ∧ w' = w := by
  go_enter Try.func76, Try.ntmps76
  go_wp2
  go_ret
  exact ⟨by simp, rfl⟩
set_option maxHeartbeats 400000 in
set_option maxRecDepth 100000 in
theorem impl_cmp (x y : Int) (w : World) :
    Calls Try.prog 53 #[.int .i64 x, .int .i64 y] w fun e w' => e = .returned (.int .i64 (cmpI x y)) ∧ w' = w := by
  have HC : Hid (cmpI x y = if x < y then -1 else if y < x then 1 else 0) := rfl
  have kX := fun W => impl_nan x W
  have kY := fun W => impl_nan y W
  go_enter Try.func53, Try.ntmps53
  go_wp2_with fail
  refine (kX _).mono ?_
  rintro e w1 ⟨rfl, rfl⟩
  go_wp2_with fail
  refine (kY _).mono ?_
  rintro e w2 ⟨rfl, rfl⟩
  by_cases h1 : x < y
  · have HR : Hid (cmpI x y = -1) := by show _ = _; unfold cmpI; (repeat' split) <;> omega
    go_wp2
    go_ret
    exact ⟨by rw [HR.out]; rfl, rfl⟩
  · by_cases h2 : y < x
    · have HR : Hid (cmpI x y = 1) := by show _ = _; unfold cmpI; (repeat' split) <;> omega
      go_wp2
      go_ret
      exact ⟨by rw [HR.out]; rfl, rfl⟩
    · have HR : Hid (cmpI x y = 0) := by show _ = _; unfold cmpI; (repeat' split) <;> omega
      go_wp2
      go_ret
      exact ⟨by rw [HR.out]; rfl, rfl⟩
set_option maxHeartbeats 800000 in
set_option maxRecDepth 100000 in
theorem impl_or (b : Nat) (x y z : Int) (w : World) (hb : Blk w b [.int .i64 x, .int .i64 y, .int .i64 z] 3) :
    Calls Try.prog 52 #[.slice (some ⟨b, 0, none⟩) 3 3] w fun e w' => e = .returned (.int .i64 (or3 x y z)) ∧ w' = w := by
  have c0 := hb.cell 0 rfl
  have c1 := hb.cell 1 rfl
  have c2 := hb.cell 2 rfl
  clear hb
  have HO : Hid (or3 x y z = if x = 0 then (if y = 0 then z else y) else x) := rfl
  go_enter Try.func52, Try.ntmps52
  go_wp2
  go_loopw [8] (fun iv wr => ∃ k : Int, 0 ≤ k ∧ k ≤ 3 ∧ iv = .int .i64 k ∧ wr = w ∧ Hid ((0 < k → x = 0) ∧ (1 < k → y = 0) ∧ (2 < k → z = 0))) (fun iv _ => 3 - (intOf iv).toNat)
  case atStart => exact ⟨0, by omega, by omega, rfl, rfl, (fun h => absurd h (by decide)), (fun h => absurd h (by decide)), (fun h => absurd h (by decide))⟩
  case round =>
    obtain ⟨k, hk0, hk3, rfl, rfl, HZ⟩ := hrel
    have hk : k = 0 ∨ k = 1 ∨ k = 2 ∨ k = 3 := by omega
    clear hk0 hk3
    rcases hk with rfl | rfl | rfl | rfl
    · by_cases hx : x = 0
      · have HX : Hid (x = 0) := hx
        have hx' : (x != 0) = false := by simp [hx]
        clear hx
        go_wp2
        go_roundw
        case rel => exact ⟨1, by omega, by omega, by go_num, by trivial, (fun _ => HX.out), (fun h => absurd h (by decide)), (fun h => absurd h (by decide))⟩
        case measure => simp [intOf]
      · have hx' : (x != 0) = true := by simp [hx]
        go_wp2
        go_ret
        exact ⟨by rw [HO.out, if_neg hx]; rfl, rfl⟩
    · by_cases hx : y = 0
      · have HX : Hid (y = 0) := hx
        have hx' : (y != 0) = false := by simp [hx]
        clear hx
        go_wp2
        go_roundw
        case rel => exact ⟨2, by omega, by omega, by go_num, by trivial, (fun _ => HZ.out.1 (by omega)), (fun _ => HX.out), (fun h => absurd h (by decide))⟩
        case measure => simp [intOf]
      · have hx' : (y != 0) = true := by simp [hx]
        have HX : Hid (x = 0) := HZ.out.1 (by omega)
        go_wp2
        go_ret
        exact ⟨by rw [HO.out, if_pos HX.out, if_neg hx]; rfl, rfl⟩
    · by_cases hx : z = 0
      · have HX : Hid (z = 0) := hx
        have hx' : (z != 0) = false := by simp [hx]
        clear hx
        go_wp2
        go_roundw
        case rel => exact ⟨3, by omega, by omega, by go_num, by trivial, (fun _ => HZ.out.1 (by omega)), (fun _ => HZ.out.2.1 (by omega)), (fun _ => HX.out)⟩
        case measure => simp [intOf]
      · have hx' : (z != 0) = true := by simp [hx]
        have HX : Hid (x = 0) := HZ.out.1 (by omega)
        have HY : Hid (y = 0) := HZ.out.2.1 (by omega)
        go_wp2
        go_ret
        exact ⟨by rw [HO.out, if_pos HX.out, if_pos HY.out]; rfl, rfl⟩
    · have HX : Hid (x = 0) := HZ.out.1 (by omega)
      have HY : Hid (y = 0) := HZ.out.2.1 (by omega)
      have HW : Hid (z = 0) := HZ.out.2.2 (by omega)
      go_wp2
      go_ret
      exact ⟨by rw [HO.out, if_pos HX.out, if_pos HY.out, HW.out]; rfl, rfl⟩
set_option maxHeartbeats 3200000 in
set_option maxRecDepth 100000 in
theorem spec_may (g : Gt) (x : Vt) (w : World) :
    Calls Try.prog 22 #[gV g, tV x] w fun e w' => e = .returned (.int .i64 (mayS g x)) ∧ Below w.heap.size w w' := by
  have kG := fun W => spec_gok g W
  have kV := fun W => spec_vok x W
  have HM : Hid (mayS g x = bif gOk g && voB x then may3 x.h x.r x.s g.h g.r g.s (decide (x.i = g.i)) else 2) := rfl
  generalize mayS g x = R at *
  generalize gOk g = t at *
  generalize voB x = u at *
  obtain ⟨h, r, s, i⟩ := g
  obtain ⟨xh, xr, xs, xi, xv⟩ := x
  unfold tV at *
  unfold gV at *
  simp only at kG kV HM ⊢
  have HX : Hid (Blk ((w.alloc (.cells [.int .i64 h, .int .i64 r, .int .i64 s, .string i].toArray 26)).alloc (.cells [.int .i64 xh, .int .i64 xr, .int .i64 xs, .string xi, .int .i64 xv].toArray 31)) w.heap.size [.int .i64 h, .int .i64 r, .int .i64 s, .string i] 26) := (blk_new _ _ _).alloc _
  have HY : Hid (Blk ((w.alloc (.cells [.int .i64 h, .int .i64 r, .int .i64 s, .string i].toArray 26)).alloc (.cells [.int .i64 xh, .int .i64 xr, .int .i64 xs, .string xi, .int .i64 xv].toArray 31)) (w.heap.size + 1) [.int .i64 xh, .int .i64 xr, .int .i64 xs, .string xi, .int .i64 xv] 31) := by
    have h1 := blk_new (w.alloc (.cells [.int .i64 h, .int .i64 r, .int .i64 s, .string i].toArray 26)) [.int .i64 xh, .int .i64 xr, .int .i64 xs, .string xi, .int .i64 xv] 31
    have e : (w.alloc (.cells [.int .i64 h, .int .i64 r, .int .i64 s, .string i].toArray 26)).heap.size = w.heap.size + 1 := by simp
    rw [e] at h1; exact h1
  have HB : Hid (Below w.heap.size w ((w.alloc (.cells [.int .i64 h, .int .i64 r, .int .i64 s, .string i].toArray 26)).alloc (.cells [.int .i64 xh, .int .i64 xr, .int .i64 xs, .string xi, .int .i64 xv].toArray 31))) := below_two _ _ _
  go_enter Try.func22, Try.ntmps22
  go_wp2_with fail
  generalize (w.alloc (Obj.cells #[.int .i64 h, .int .i64 r, .int .i64 s, .string i] 26)).alloc (Obj.cells #[.int .i64 xh, .int .i64 xr, .int .i64 xs, .string xi, .int .i64 xv] 31) = w1 at *
  refine (kG _).mono ?_
  rintro e w2 ⟨rfl, b2⟩
  have HX2 : Hid (Blk w2 w.heap.size [.int .i64 h, .int .i64 r, .int .i64 s, .string i] 26) := HX.out.below b2 HX.out.lt
  have HY2 : Hid (Blk w2 (w.heap.size + 1) [.int .i64 xh, .int .i64 xr, .int .i64 xs, .string xi, .int .i64 xv] 31) := HY.out.below b2 HY.out.lt
  have HB2 : Hid (Below w.heap.size w w2) := HB.out.trans (b2.mono HB.out.size)
  clear HX HY HB b2
  rcases t with _ | _
  · go_wp2
    go_ret
    exact ⟨by rw [HM.out]; rfl, HB2.out⟩
  have v0 := HY2.out.cell 0 rfl
  have v1 := HY2.out.cell 1 rfl
  have v2 := HY2.out.cell 2 rfl
  have v3 := HY2.out.cell 3 rfl
  have v4 := HY2.out.cell 4 rfl
  go_wp2_with fail
  refine (kV _).mono ?_
  rintro e w3 ⟨rfl, b3⟩
  clear v0 v1 v2 v3 v4
  have HX3 : Hid (Blk w3 w.heap.size [.int .i64 h, .int .i64 r, .int .i64 s, .string i] 26) := HX2.out.below b3 HX2.out.lt
  have HY3 : Hid (Blk w3 (w.heap.size + 1) [.int .i64 xh, .int .i64 xr, .int .i64 xs, .string xi, .int .i64 xv] 31) := HY2.out.below b3 HY2.out.lt
  have HB3 : Hid (Below w.heap.size w w3) := HB2.out.trans (b3.mono HB2.out.size)
  clear HX2 HY2 HB2 b3
  rcases u with _ | _
  · go_wp2
    go_ret
    exact ⟨by rw [HM.out]; rfl, HB3.out⟩
  replace HM : Hid (R = may3 xh xr xs h r s (decide (xi = i))) := HM.out
  clear kG kV
  have HA : Hid (Blk ((w3.alloc (.cells [.int .i64 xh, .int .i64 xr, .int .i64 xs].toArray 3)).alloc (.cells [.int .i64 h, .int .i64 r, .int .i64 s].toArray 3)) w3.heap.size [.int .i64 xh, .int .i64 xr, .int .i64 xs] 3) := (blk_new _ _ _).alloc _
  have HD : Hid (Blk ((w3.alloc (.cells [.int .i64 xh, .int .i64 xr, .int .i64 xs].toArray 3)).alloc (.cells [.int .i64 h, .int .i64 r, .int .i64 s].toArray 3)) (w3.heap.size + 1) [.int .i64 h, .int .i64 r, .int .i64 s] 3) := by
    have h1 := blk_new (w3.alloc (.cells [.int .i64 xh, .int .i64 xr, .int .i64 xs].toArray 3)) [.int .i64 h, .int .i64 r, .int .i64 s] 3
    have e : (w3.alloc (.cells [.int .i64 xh, .int .i64 xr, .int .i64 xs].toArray 3)).heap.size = w3.heap.size + 1 := by simp
    rw [e] at h1; exact h1
  have HX4 : Hid (Blk ((w3.alloc (.cells [.int .i64 xh, .int .i64 xr, .int .i64 xs].toArray 3)).alloc (.cells [.int .i64 h, .int .i64 r, .int .i64 s].toArray 3)) w.heap.size [.int .i64 h, .int .i64 r, .int .i64 s, .string i] 26) := (HX3.out.alloc _).alloc _
  have HY4 : Hid (Blk ((w3.alloc (.cells [.int .i64 xh, .int .i64 xr, .int .i64 xs].toArray 3)).alloc (.cells [.int .i64 h, .int .i64 r, .int .i64 s].toArray 3)) (w.heap.size + 1) [.int .i64 xh, .int .i64 xr, .int .i64 xs, .string xi, .int .i64 xv] 31) := (HY3.out.alloc _).alloc _
  have HB4 : Hid (Below w.heap.size w ((w3.alloc (.cells [.int .i64 xh, .int .i64 xr, .int .i64 xs].toArray 3)).alloc (.cells [.int .i64 h, .int .i64 r, .int .i64 s].toArray 3))) := HB3.out.trans ((below_two _ _ _).mono HB3.out.size)
  have v0 := HY3.out.cell 0 rfl
  have v1 := HY3.out.cell 1 rfl
  have v2 := HY3.out.cell 2 rfl
  have g0 := (HX3.out.alloc (.cells [.int .i64 xh, .int .i64 xr, .int .i64 xs].toArray 3)).cell 0 rfl
  have g1 := (HX3.out.alloc (.cells [.int .i64 xh, .int .i64 xr, .int .i64 xs].toArray 3)).cell 1 rfl
  have g2 := (HX3.out.alloc (.cells [.int .i64 xh, .int .i64 xr, .int .i64 xs].toArray 3)).cell 2 rfl
  obtain ⟨n3, hn3⟩ : ∃ n, w3.heap.size = n := ⟨_, rfl⟩
  rw [hn3] at HA HD
  go_wp2
  clear v0 v1 v2 g0 g1 g2 HX3 HY3 HB3
  go_loopw [7] (fun iv wr => ∃ k : Int, 0 ≤ k ∧ k ≤ 3 ∧ iv = .int .i64 k ∧ Hid (Blk wr n3 [.int .i64 xh, .int .i64 xr, .int .i64 xs] 3) ∧ Hid (Blk wr (n3 + 1) [.int .i64 h, .int .i64 r, .int .i64 s] 3) ∧ Hid (Blk wr w.heap.size [.int .i64 h, .int .i64 r, .int .i64 s, .string i] 26) ∧ Hid (Blk wr (w.heap.size + 1) [.int .i64 xh, .int .i64 xr, .int .i64 xs, .string xi, .int .i64 xv] 31) ∧ Hid (Below w.heap.size w wr) ∧ Hid ((0 < k → xh = h) ∧ (1 < k → xr = r) ∧ (2 < k → xs = s))) (fun iv _ => 3 - (intOf iv).toNat)
  case atStart => exact ⟨0, by omega, by omega, rfl, HA, HD, HX4, HY4, HB4, (fun h => absurd h (by decide)), (fun h => absurd h (by decide)), (fun h => absurd h (by decide))⟩
  case round =>
    clear HA HD HX4 HY4 HB4
    obtain ⟨k, hk0, hk3, rfl, HA, HD, HX, HY, HB, HZ⟩ := hrel
    have hk : k = 0 ∨ k = 1 ∨ k = 2 ∨ k = 3 := by omega
    clear hk0 hk3
    rcases hk with rfl | rfl | rfl | rfl
    · skip
      by_cases h1 : h < xh
      · have HR : Hid (R = 0) := by show _ = _; rw [HM.out]; unfold may3; (repeat' split) <;> omega
        skip
        have hne := bel_some wr
        have c0 := fun p : Bel wr => p.cell (HA.out.cell 0 rfl)
        have c1 := fun p : Bel wr => p.cell (HD.out.cell 0 rfl)
        go_wp2_with fail
        refine wp_region_below (by kernel_rfl) (by kernel_rfl) ?_
        repeat (go_big_quiet_step (fail))
        refine wpQuiet_nil ?_
        intro _ hw'
        obtain ⟨pq, hw''⟩ := hw'
        subst hw''
        replace HA : Hid (Blk pq.W n3 [.int .i64 xh, .int .i64 xr, .int .i64 xs] 3) := HA.out.below pq.h HA.out.lt
        replace HD : Hid (Blk pq.W (n3 + 1) [.int .i64 h, .int .i64 r, .int .i64 s] 3) := HD.out.below pq.h HD.out.lt
        replace HX : Hid (Blk pq.W w.heap.size [.int .i64 h, .int .i64 r, .int .i64 s, .string i] 26) := HX.out.below pq.h HX.out.lt
        replace HY : Hid (Blk pq.W (w.heap.size + 1) [.int .i64 xh, .int .i64 xr, .int .i64 xs, .string xi, .int .i64 xv] 31) := HY.out.below pq.h HY.out.lt
        replace HB : Hid (Below w.heap.size w pq.W) := HB.out.trans (pq.h.mono HB.out.size)
        clear c0 c1 hne
        generalize pq.W = wq at *
        go_wp2
        go_ret
        exact ⟨by rw [HR.out]; rfl, HB.out⟩
      · by_cases h2 : xh < h
        · have HR : Hid (R = 2) := by show _ = _; rw [HM.out]; unfold may3; (repeat' split) <;> omega
          skip
          have hne := bel_some wr
          have c0 := fun p : Bel wr => p.cell (HA.out.cell 0 rfl)
          have c1 := fun p : Bel wr => p.cell (HD.out.cell 0 rfl)
          go_wp2_with fail
          refine wp_region_below (by kernel_rfl) (by kernel_rfl) ?_
          repeat (go_big_quiet_step (fail))
          refine wpQuiet_nil ?_
          intro _ hw'
          obtain ⟨pq, hw''⟩ := hw'
          subst hw''
          replace HA : Hid (Blk pq.W n3 [.int .i64 xh, .int .i64 xr, .int .i64 xs] 3) := HA.out.below pq.h HA.out.lt
          replace HD : Hid (Blk pq.W (n3 + 1) [.int .i64 h, .int .i64 r, .int .i64 s] 3) := HD.out.below pq.h HD.out.lt
          replace HX : Hid (Blk pq.W w.heap.size [.int .i64 h, .int .i64 r, .int .i64 s, .string i] 26) := HX.out.below pq.h HX.out.lt
          replace HY : Hid (Blk pq.W (w.heap.size + 1) [.int .i64 xh, .int .i64 xr, .int .i64 xs, .string xi, .int .i64 xv] 31) := HY.out.below pq.h HY.out.lt
          replace HB : Hid (Below w.heap.size w pq.W) := HB.out.trans (pq.h.mono HB.out.size)
          clear c0 c1 hne
          generalize pq.W = wq at *
          have hne := bel_some wq
          have c0 := fun p : Bel wq => p.cell (HA.out.cell 0 rfl)
          have c1 := fun p : Bel wq => p.cell (HD.out.cell 0 rfl)
          go_wp2_with fail
          refine wp_region_below (by kernel_rfl) (by kernel_rfl) ?_
          repeat (go_big_quiet_step (fail))
          refine wpQuiet_nil ?_
          intro _ hw'
          obtain ⟨pq, hw''⟩ := hw'
          subst hw''
          replace HA : Hid (Blk pq.W n3 [.int .i64 xh, .int .i64 xr, .int .i64 xs] 3) := HA.out.below pq.h HA.out.lt
          replace HD : Hid (Blk pq.W (n3 + 1) [.int .i64 h, .int .i64 r, .int .i64 s] 3) := HD.out.below pq.h HD.out.lt
          replace HX : Hid (Blk pq.W w.heap.size [.int .i64 h, .int .i64 r, .int .i64 s, .string i] 26) := HX.out.below pq.h HX.out.lt
          replace HY : Hid (Blk pq.W (w.heap.size + 1) [.int .i64 xh, .int .i64 xr, .int .i64 xs, .string xi, .int .i64 xv] 31) := HY.out.below pq.h HY.out.lt
          replace HB : Hid (Below w.heap.size w pq.W) := HB.out.trans (pq.h.mono HB.out.size)
          clear c0 c1 hne
          generalize pq.W = wp at *
          go_wp2
          go_ret
          exact ⟨by rw [HR.out]; rfl, HB.out⟩
        · have HE : Hid (xh = h) := by show _ = _; omega
          skip
          have hne := bel_some wr
          have c0 := fun p : Bel wr => p.cell (HA.out.cell 0 rfl)
          have c1 := fun p : Bel wr => p.cell (HD.out.cell 0 rfl)
          go_wp2_with fail
          refine wp_region_below (by kernel_rfl) (by kernel_rfl) ?_
          repeat (go_big_quiet_step (fail))
          refine wpQuiet_nil ?_
          intro _ hw'
          obtain ⟨pq, hw''⟩ := hw'
          subst hw''
          replace HA : Hid (Blk pq.W n3 [.int .i64 xh, .int .i64 xr, .int .i64 xs] 3) := HA.out.below pq.h HA.out.lt
          replace HD : Hid (Blk pq.W (n3 + 1) [.int .i64 h, .int .i64 r, .int .i64 s] 3) := HD.out.below pq.h HD.out.lt
          replace HX : Hid (Blk pq.W w.heap.size [.int .i64 h, .int .i64 r, .int .i64 s, .string i] 26) := HX.out.below pq.h HX.out.lt
          replace HY : Hid (Blk pq.W (w.heap.size + 1) [.int .i64 xh, .int .i64 xr, .int .i64 xs, .string xi, .int .i64 xv] 31) := HY.out.below pq.h HY.out.lt
          replace HB : Hid (Below w.heap.size w pq.W) := HB.out.trans (pq.h.mono HB.out.size)
          clear c0 c1 hne
          generalize pq.W = wq at *
          have hne := bel_some wq
          have c0 := fun p : Bel wq => p.cell (HA.out.cell 0 rfl)
          have c1 := fun p : Bel wq => p.cell (HD.out.cell 0 rfl)
          go_wp2_with fail
          refine wp_region_below (by kernel_rfl) (by kernel_rfl) ?_
          repeat (go_big_quiet_step (fail))
          refine wpQuiet_nil ?_
          intro _ hw'
          obtain ⟨pq, hw''⟩ := hw'
          subst hw''
          replace HA : Hid (Blk pq.W n3 [.int .i64 xh, .int .i64 xr, .int .i64 xs] 3) := HA.out.below pq.h HA.out.lt
          replace HD : Hid (Blk pq.W (n3 + 1) [.int .i64 h, .int .i64 r, .int .i64 s] 3) := HD.out.below pq.h HD.out.lt
          replace HX : Hid (Blk pq.W w.heap.size [.int .i64 h, .int .i64 r, .int .i64 s, .string i] 26) := HX.out.below pq.h HX.out.lt
          replace HY : Hid (Blk pq.W (w.heap.size + 1) [.int .i64 xh, .int .i64 xr, .int .i64 xs, .string xi, .int .i64 xv] 31) := HY.out.below pq.h HY.out.lt
          replace HB : Hid (Below w.heap.size w pq.W) := HB.out.trans (pq.h.mono HB.out.size)
          clear c0 c1 hne
          generalize pq.W = wp at *
          go_wp2
          go_roundw
          case rel => exact ⟨1, by omega, by omega, by go_num, HA, HD, HX, HY, HB, (fun _ => HE.out), (fun h => absurd h (by decide)), (fun h => absurd h (by decide))⟩
          case measure => simp [intOf]
    · have e0 : xh = h := HZ.out.1 (by omega)
      by_cases h1 : r < xr
      · have HR : Hid (R = 0) := by show _ = _; rw [HM.out]; unfold may3; (repeat' split) <;> omega
        clear e0
        have hne := bel_some wr
        have c0 := fun p : Bel wr => p.cell (HA.out.cell 1 rfl)
        have c1 := fun p : Bel wr => p.cell (HD.out.cell 1 rfl)
        go_wp2_with fail
        refine wp_region_below (by kernel_rfl) (by kernel_rfl) ?_
        repeat (go_big_quiet_step (fail))
        refine wpQuiet_nil ?_
        intro _ hw'
        obtain ⟨pq, hw''⟩ := hw'
        subst hw''
        replace HA : Hid (Blk pq.W n3 [.int .i64 xh, .int .i64 xr, .int .i64 xs] 3) := HA.out.below pq.h HA.out.lt
        replace HD : Hid (Blk pq.W (n3 + 1) [.int .i64 h, .int .i64 r, .int .i64 s] 3) := HD.out.below pq.h HD.out.lt
        replace HX : Hid (Blk pq.W w.heap.size [.int .i64 h, .int .i64 r, .int .i64 s, .string i] 26) := HX.out.below pq.h HX.out.lt
        replace HY : Hid (Blk pq.W (w.heap.size + 1) [.int .i64 xh, .int .i64 xr, .int .i64 xs, .string xi, .int .i64 xv] 31) := HY.out.below pq.h HY.out.lt
        replace HB : Hid (Below w.heap.size w pq.W) := HB.out.trans (pq.h.mono HB.out.size)
        clear c0 c1 hne
        generalize pq.W = wq at *
        go_wp2
        go_ret
        exact ⟨by rw [HR.out]; rfl, HB.out⟩
      · by_cases h2 : xr < r
        · have HR : Hid (R = 2) := by show _ = _; rw [HM.out]; unfold may3; (repeat' split) <;> omega
          clear e0
          have hne := bel_some wr
          have c0 := fun p : Bel wr => p.cell (HA.out.cell 1 rfl)
          have c1 := fun p : Bel wr => p.cell (HD.out.cell 1 rfl)
          go_wp2_with fail
          refine wp_region_below (by kernel_rfl) (by kernel_rfl) ?_
          repeat (go_big_quiet_step (fail))
          refine wpQuiet_nil ?_
          intro _ hw'
          obtain ⟨pq, hw''⟩ := hw'
          subst hw''
          replace HA : Hid (Blk pq.W n3 [.int .i64 xh, .int .i64 xr, .int .i64 xs] 3) := HA.out.below pq.h HA.out.lt
          replace HD : Hid (Blk pq.W (n3 + 1) [.int .i64 h, .int .i64 r, .int .i64 s] 3) := HD.out.below pq.h HD.out.lt
          replace HX : Hid (Blk pq.W w.heap.size [.int .i64 h, .int .i64 r, .int .i64 s, .string i] 26) := HX.out.below pq.h HX.out.lt
          replace HY : Hid (Blk pq.W (w.heap.size + 1) [.int .i64 xh, .int .i64 xr, .int .i64 xs, .string xi, .int .i64 xv] 31) := HY.out.below pq.h HY.out.lt
          replace HB : Hid (Below w.heap.size w pq.W) := HB.out.trans (pq.h.mono HB.out.size)
          clear c0 c1 hne
          generalize pq.W = wq at *
          have hne := bel_some wq
          have c0 := fun p : Bel wq => p.cell (HA.out.cell 1 rfl)
          have c1 := fun p : Bel wq => p.cell (HD.out.cell 1 rfl)
          go_wp2_with fail
          refine wp_region_below (by kernel_rfl) (by kernel_rfl) ?_
          repeat (go_big_quiet_step (fail))
          refine wpQuiet_nil ?_
          intro _ hw'
          obtain ⟨pq, hw''⟩ := hw'
          subst hw''
          replace HA : Hid (Blk pq.W n3 [.int .i64 xh, .int .i64 xr, .int .i64 xs] 3) := HA.out.below pq.h HA.out.lt
          replace HD : Hid (Blk pq.W (n3 + 1) [.int .i64 h, .int .i64 r, .int .i64 s] 3) := HD.out.below pq.h HD.out.lt
          replace HX : Hid (Blk pq.W w.heap.size [.int .i64 h, .int .i64 r, .int .i64 s, .string i] 26) := HX.out.below pq.h HX.out.lt
          replace HY : Hid (Blk pq.W (w.heap.size + 1) [.int .i64 xh, .int .i64 xr, .int .i64 xs, .string xi, .int .i64 xv] 31) := HY.out.below pq.h HY.out.lt
          replace HB : Hid (Below w.heap.size w pq.W) := HB.out.trans (pq.h.mono HB.out.size)
          clear c0 c1 hne
          generalize pq.W = wp at *
          go_wp2
          go_ret
          exact ⟨by rw [HR.out]; rfl, HB.out⟩
        · have HE : Hid (xr = r) := by show _ = _; omega
          clear e0
          have hne := bel_some wr
          have c0 := fun p : Bel wr => p.cell (HA.out.cell 1 rfl)
          have c1 := fun p : Bel wr => p.cell (HD.out.cell 1 rfl)
          go_wp2_with fail
          refine wp_region_below (by kernel_rfl) (by kernel_rfl) ?_
          repeat (go_big_quiet_step (fail))
          refine wpQuiet_nil ?_
          intro _ hw'
          obtain ⟨pq, hw''⟩ := hw'
          subst hw''
          replace HA : Hid (Blk pq.W n3 [.int .i64 xh, .int .i64 xr, .int .i64 xs] 3) := HA.out.below pq.h HA.out.lt
          replace HD : Hid (Blk pq.W (n3 + 1) [.int .i64 h, .int .i64 r, .int .i64 s] 3) := HD.out.below pq.h HD.out.lt
          replace HX : Hid (Blk pq.W w.heap.size [.int .i64 h, .int .i64 r, .int .i64 s, .string i] 26) := HX.out.below pq.h HX.out.lt
          replace HY : Hid (Blk pq.W (w.heap.size + 1) [.int .i64 xh, .int .i64 xr, .int .i64 xs, .string xi, .int .i64 xv] 31) := HY.out.below pq.h HY.out.lt
          replace HB : Hid (Below w.heap.size w pq.W) := HB.out.trans (pq.h.mono HB.out.size)
          clear c0 c1 hne
          generalize pq.W = wq at *
          have hne := bel_some wq
          have c0 := fun p : Bel wq => p.cell (HA.out.cell 1 rfl)
          have c1 := fun p : Bel wq => p.cell (HD.out.cell 1 rfl)
          go_wp2_with fail
          refine wp_region_below (by kernel_rfl) (by kernel_rfl) ?_
          repeat (go_big_quiet_step (fail))
          refine wpQuiet_nil ?_
          intro _ hw'
          obtain ⟨pq, hw''⟩ := hw'
          subst hw''
          replace HA : Hid (Blk pq.W n3 [.int .i64 xh, .int .i64 xr, .int .i64 xs] 3) := HA.out.below pq.h HA.out.lt
          replace HD : Hid (Blk pq.W (n3 + 1) [.int .i64 h, .int .i64 r, .int .i64 s] 3) := HD.out.below pq.h HD.out.lt
          replace HX : Hid (Blk pq.W w.heap.size [.int .i64 h, .int .i64 r, .int .i64 s, .string i] 26) := HX.out.below pq.h HX.out.lt
          replace HY : Hid (Blk pq.W (w.heap.size + 1) [.int .i64 xh, .int .i64 xr, .int .i64 xs, .string xi, .int .i64 xv] 31) := HY.out.below pq.h HY.out.lt
          replace HB : Hid (Below w.heap.size w pq.W) := HB.out.trans (pq.h.mono HB.out.size)
          clear c0 c1 hne
          generalize pq.W = wp at *
          go_wp2
          go_roundw
          case rel => exact ⟨2, by omega, by omega, by go_num, HA, HD, HX, HY, HB, (fun _ => HZ.out.1 (by omega)), (fun _ => HE.out), (fun h => absurd h (by decide))⟩
          case measure => simp [intOf]
    · have e0 : xh = h := HZ.out.1 (by omega)
      have e1 : xr = r := HZ.out.2.1 (by omega)
      by_cases h1 : s < xs
      · have HR : Hid (R = 0) := by show _ = _; rw [HM.out]; unfold may3; (repeat' split) <;> omega
        clear e0 e1
        have hne := bel_some wr
        have c0 := fun p : Bel wr => p.cell (HA.out.cell 2 rfl)
        have c1 := fun p : Bel wr => p.cell (HD.out.cell 2 rfl)
        go_wp2_with fail
        refine wp_region_below (by kernel_rfl) (by kernel_rfl) ?_
        repeat (go_big_quiet_step (fail))
        refine wpQuiet_nil ?_
        intro _ hw'
        obtain ⟨pq, hw''⟩ := hw'
        subst hw''
        replace HA : Hid (Blk pq.W n3 [.int .i64 xh, .int .i64 xr, .int .i64 xs] 3) := HA.out.below pq.h HA.out.lt
        replace HD : Hid (Blk pq.W (n3 + 1) [.int .i64 h, .int .i64 r, .int .i64 s] 3) := HD.out.below pq.h HD.out.lt
        replace HX : Hid (Blk pq.W w.heap.size [.int .i64 h, .int .i64 r, .int .i64 s, .string i] 26) := HX.out.below pq.h HX.out.lt
        replace HY : Hid (Blk pq.W (w.heap.size + 1) [.int .i64 xh, .int .i64 xr, .int .i64 xs, .string xi, .int .i64 xv] 31) := HY.out.below pq.h HY.out.lt
        replace HB : Hid (Below w.heap.size w pq.W) := HB.out.trans (pq.h.mono HB.out.size)
        clear c0 c1 hne
        generalize pq.W = wq at *
        go_wp2
        go_ret
        exact ⟨by rw [HR.out]; rfl, HB.out⟩
      · by_cases h2 : xs < s
        · have HR : Hid (R = 2) := by show _ = _; rw [HM.out]; unfold may3; (repeat' split) <;> omega
          clear e0 e1
          have hne := bel_some wr
          have c0 := fun p : Bel wr => p.cell (HA.out.cell 2 rfl)
          have c1 := fun p : Bel wr => p.cell (HD.out.cell 2 rfl)
          go_wp2_with fail
          refine wp_region_below (by kernel_rfl) (by kernel_rfl) ?_
          repeat (go_big_quiet_step (fail))
          refine wpQuiet_nil ?_
          intro _ hw'
          obtain ⟨pq, hw''⟩ := hw'
          subst hw''
          replace HA : Hid (Blk pq.W n3 [.int .i64 xh, .int .i64 xr, .int .i64 xs] 3) := HA.out.below pq.h HA.out.lt
          replace HD : Hid (Blk pq.W (n3 + 1) [.int .i64 h, .int .i64 r, .int .i64 s] 3) := HD.out.below pq.h HD.out.lt
          replace HX : Hid (Blk pq.W w.heap.size [.int .i64 h, .int .i64 r, .int .i64 s, .string i] 26) := HX.out.below pq.h HX.out.lt
          replace HY : Hid (Blk pq.W (w.heap.size + 1) [.int .i64 xh, .int .i64 xr, .int .i64 xs, .string xi, .int .i64 xv] 31) := HY.out.below pq.h HY.out.lt
          replace HB : Hid (Below w.heap.size w pq.W) := HB.out.trans (pq.h.mono HB.out.size)
          clear c0 c1 hne
          generalize pq.W = wq at *
          have hne := bel_some wq
          have c0 := fun p : Bel wq => p.cell (HA.out.cell 2 rfl)
          have c1 := fun p : Bel wq => p.cell (HD.out.cell 2 rfl)
          go_wp2_with fail
          refine wp_region_below (by kernel_rfl) (by kernel_rfl) ?_
          repeat (go_big_quiet_step (fail))
          refine wpQuiet_nil ?_
          intro _ hw'
          obtain ⟨pq, hw''⟩ := hw'
          subst hw''
          replace HA : Hid (Blk pq.W n3 [.int .i64 xh, .int .i64 xr, .int .i64 xs] 3) := HA.out.below pq.h HA.out.lt
          replace HD : Hid (Blk pq.W (n3 + 1) [.int .i64 h, .int .i64 r, .int .i64 s] 3) := HD.out.below pq.h HD.out.lt
          replace HX : Hid (Blk pq.W w.heap.size [.int .i64 h, .int .i64 r, .int .i64 s, .string i] 26) := HX.out.below pq.h HX.out.lt
          replace HY : Hid (Blk pq.W (w.heap.size + 1) [.int .i64 xh, .int .i64 xr, .int .i64 xs, .string xi, .int .i64 xv] 31) := HY.out.below pq.h HY.out.lt
          replace HB : Hid (Below w.heap.size w pq.W) := HB.out.trans (pq.h.mono HB.out.size)
          clear c0 c1 hne
          generalize pq.W = wp at *
          go_wp2
          go_ret
          exact ⟨by rw [HR.out]; rfl, HB.out⟩
        · have HE : Hid (xs = s) := by show _ = _; omega
          clear e0 e1
          have hne := bel_some wr
          have c0 := fun p : Bel wr => p.cell (HA.out.cell 2 rfl)
          have c1 := fun p : Bel wr => p.cell (HD.out.cell 2 rfl)
          go_wp2_with fail
          refine wp_region_below (by kernel_rfl) (by kernel_rfl) ?_
          repeat (go_big_quiet_step (fail))
          refine wpQuiet_nil ?_
          intro _ hw'
          obtain ⟨pq, hw''⟩ := hw'
          subst hw''
          replace HA : Hid (Blk pq.W n3 [.int .i64 xh, .int .i64 xr, .int .i64 xs] 3) := HA.out.below pq.h HA.out.lt
          replace HD : Hid (Blk pq.W (n3 + 1) [.int .i64 h, .int .i64 r, .int .i64 s] 3) := HD.out.below pq.h HD.out.lt
          replace HX : Hid (Blk pq.W w.heap.size [.int .i64 h, .int .i64 r, .int .i64 s, .string i] 26) := HX.out.below pq.h HX.out.lt
          replace HY : Hid (Blk pq.W (w.heap.size + 1) [.int .i64 xh, .int .i64 xr, .int .i64 xs, .string xi, .int .i64 xv] 31) := HY.out.below pq.h HY.out.lt
          replace HB : Hid (Below w.heap.size w pq.W) := HB.out.trans (pq.h.mono HB.out.size)
          clear c0 c1 hne
          generalize pq.W = wq at *
          have hne := bel_some wq
          have c0 := fun p : Bel wq => p.cell (HA.out.cell 2 rfl)
          have c1 := fun p : Bel wq => p.cell (HD.out.cell 2 rfl)
          go_wp2_with fail
          refine wp_region_below (by kernel_rfl) (by kernel_rfl) ?_
          repeat (go_big_quiet_step (fail))
          refine wpQuiet_nil ?_
          intro _ hw'
          obtain ⟨pq, hw''⟩ := hw'
          subst hw''
          replace HA : Hid (Blk pq.W n3 [.int .i64 xh, .int .i64 xr, .int .i64 xs] 3) := HA.out.below pq.h HA.out.lt
          replace HD : Hid (Blk pq.W (n3 + 1) [.int .i64 h, .int .i64 r, .int .i64 s] 3) := HD.out.below pq.h HD.out.lt
          replace HX : Hid (Blk pq.W w.heap.size [.int .i64 h, .int .i64 r, .int .i64 s, .string i] 26) := HX.out.below pq.h HX.out.lt
          replace HY : Hid (Blk pq.W (w.heap.size + 1) [.int .i64 xh, .int .i64 xr, .int .i64 xs, .string xi, .int .i64 xv] 31) := HY.out.below pq.h HY.out.lt
          replace HB : Hid (Below w.heap.size w pq.W) := HB.out.trans (pq.h.mono HB.out.size)
          clear c0 c1 hne
          generalize pq.W = wp at *
          go_wp2
          go_roundw
          case rel => exact ⟨3, by omega, by omega, by go_num, HA, HD, HX, HY, HB, (fun _ => HZ.out.1 (by omega)), (fun _ => HZ.out.2.1 (by omega)), (fun _ => HE.out)⟩
          case measure => simp [intOf]
    · have e0 : xh = h := HZ.out.1 (by omega)
      have e1 : xr = r := HZ.out.2.1 (by omega)
      have e2 : xs = s := HZ.out.2.2 (by omega)
      have c3 := HX.out.cell 3 rfl
      have v3 := HY.out.cell 3 rfl
      by_cases hi : xi = i
      · have HR : Hid (R = 1) := by show _ = _; rw [HM.out, decide_eq_true hi]; unfold may3; (repeat' split) <;> first | omega | simp_all
        clear e0 e1 e2 HM HZ
        subst hi
        go_wp2
        go_ret
        exact ⟨by rw [HR.out]; rfl, HB.out⟩
      · have HR : Hid (R = 3) := by show _ = _; rw [HM.out, decide_eq_false hi]; unfold may3; (repeat' split) <;> first | omega | simp_all
        have hb : (xi.toList == i.toList) = false := by rw [beq_str, decide_eq_false hi]
        clear e0 e1 e2 HM HZ
        go_wp2
        go_ret
        exact ⟨by rw [HR.out]; rfl, HB.out⟩
set_option maxHeartbeats 3200000 in
set_option maxRecDepth 100000 in
theorem impl_may (g : Gt) (x : Vt) (w : World) :
    Calls Try.prog 21 #[gV g, tV x] w fun e w' => e = .returned (.int .i64 (mayS g x)) ∧ Below w.heap.size w w' := by
  have kG := fun W => impl_gok g W
  have kV := fun W => impl_vok x W
  have HM : Hid (mayS g x = bif gOk g && voB x then may3 x.h x.r x.s g.h g.r g.s (decide (x.i = g.i)) else 2) := rfl
  generalize mayS g x = R at *
  generalize gOk g = t at *
  generalize voB x = u at *
  obtain ⟨h, r, s, i⟩ := g
  obtain ⟨xh, xr, xs, xi, xv⟩ := x
  unfold tV at *
  unfold gV at *
  simp only at kG kV HM ⊢
  have HX : Hid (Blk ((w.alloc (.cells [.int .i64 h, .int .i64 r, .int .i64 s, .string i].toArray 26)).alloc (.cells [.int .i64 xh, .int .i64 xr, .int .i64 xs, .string xi, .int .i64 xv].toArray 31)) w.heap.size [.int .i64 h, .int .i64 r, .int .i64 s, .string i] 26) := (blk_new _ _ _).alloc _
  have HY : Hid (Blk ((w.alloc (.cells [.int .i64 h, .int .i64 r, .int .i64 s, .string i].toArray 26)).alloc (.cells [.int .i64 xh, .int .i64 xr, .int .i64 xs, .string xi, .int .i64 xv].toArray 31)) (w.heap.size + 1) [.int .i64 xh, .int .i64 xr, .int .i64 xs, .string xi, .int .i64 xv] 31) := by
    have h1 := blk_new (w.alloc (.cells [.int .i64 h, .int .i64 r, .int .i64 s, .string i].toArray 26)) [.int .i64 xh, .int .i64 xr, .int .i64 xs, .string xi, .int .i64 xv] 31
    have e : (w.alloc (.cells [.int .i64 h, .int .i64 r, .int .i64 s, .string i].toArray 26)).heap.size = w.heap.size + 1 := by simp
    rw [e] at h1; exact h1
  have HB : Hid (Below w.heap.size w ((w.alloc (.cells [.int .i64 h, .int .i64 r, .int .i64 s, .string i].toArray 26)).alloc (.cells [.int .i64 xh, .int .i64 xr, .int .i64 xs, .string xi, .int .i64 xv].toArray 31))) := below_two _ _ _
  go_enter Try.func21, Try.ntmps21
  go_wp2_with fail
  generalize (w.alloc (Obj.cells #[.int .i64 h, .int .i64 r, .int .i64 s, .string i] 26)).alloc (Obj.cells #[.int .i64 xh, .int .i64 xr, .int .i64 xs, .string xi, .int .i64 xv] 31) = w1 at *
  refine (kG _).mono ?_
  rintro e w2 ⟨rfl, b2⟩
  have HX2 : Hid (Blk w2 w.heap.size [.int .i64 h, .int .i64 r, .int .i64 s, .string i] 26) := HX.out.below b2 HX.out.lt
  have HY2 : Hid (Blk w2 (w.heap.size + 1) [.int .i64 xh, .int .i64 xr, .int .i64 xs, .string xi, .int .i64 xv] 31) := HY.out.below b2 HY.out.lt
  have HB2 : Hid (Below w.heap.size w w2) := HB.out.trans (b2.mono HB.out.size)
  clear HX HY HB b2
  rcases t with _ | _
  · go_wp2
    go_ret
    exact ⟨by rw [HM.out]; rfl, HB2.out⟩
  have v0 := HY2.out.cell 0 rfl
  have v1 := HY2.out.cell 1 rfl
  have v2 := HY2.out.cell 2 rfl
  have v3 := HY2.out.cell 3 rfl
  have v4 := HY2.out.cell 4 rfl
  go_wp2_with fail
  refine (kV _).mono ?_
  rintro e w3 ⟨rfl, b3⟩
  clear v0 v1 v2 v3 v4
  have HX3 : Hid (Blk w3 w.heap.size [.int .i64 h, .int .i64 r, .int .i64 s, .string i] 26) := HX2.out.below b3 HX2.out.lt
  have HY3 : Hid (Blk w3 (w.heap.size + 1) [.int .i64 xh, .int .i64 xr, .int .i64 xs, .string xi, .int .i64 xv] 31) := HY2.out.below b3 HY2.out.lt
  have HB3 : Hid (Below w.heap.size w w3) := HB2.out.trans (b3.mono HB2.out.size)
  clear HX2 HY2 HB2 b3
  rcases u with _ | _
  · go_wp2
    go_ret
    exact ⟨by rw [HM.out]; rfl, HB3.out⟩
  replace HM : Hid (R = may3 xh xr xs h r s (decide (xi = i))) := HM.out
  clear kG kV
  obtain ⟨p0, hp0⟩ : ∃ p, cmpI xh h = p := ⟨_, rfl⟩
  obtain ⟨p1, hp1⟩ : ∃ p, cmpI xr r = p := ⟨_, rfl⟩
  obtain ⟨p2, hp2⟩ : ∃ p, cmpI xs s = p := ⟨_, rfl⟩
  obtain ⟨q, hq⟩ : ∃ q, or3 p0 p1 p2 = q := ⟨_, rfl⟩
  have HP0 : Hid (cmpI xh h = p0) := hp0
  have HP1 : Hid (cmpI xr r = p1) := hp1
  have HP2 : Hid (cmpI xs s = p2) := hp2
  have HQ : Hid (or3 p0 p1 p2 = q) := hq
  clear hp0 hp1 hp2 hq
  have HXd : Hid (Blk w3.drew w.heap.size [.int .i64 h, .int .i64 r, .int .i64 s, .string i] 26) := HX3.out
  have HYd : Hid (Blk w3.drew (w.heap.size + 1) [.int .i64 xh, .int .i64 xr, .int .i64 xs, .string xi, .int .i64 xv] 31) := HY3.out
  have HBd : Hid (Below w.heap.size w w3.drew) := HB3.out.drew
  have HYS : Hid (∀ W, Blk W w.heap.size [.int .i64 h, .int .i64 r, .int .i64 s, .string i] 26 → Blk W (w.heap.size + 1) [.int .i64 xh, .int .i64 xr, .int .i64 xs, .string xi, .int .i64 xv] 31 → (fun W : World => W.cell? ⟨w.heap.size + 1, 0, none⟩ = some (.int .i64 xh) ∧ W.cell? ⟨w.heap.size + 1, 1, none⟩ = some (.int .i64 xr) ∧ W.cell? ⟨w.heap.size + 1, 2, none⟩ = some (.int .i64 xs) ∧ W.cell? ⟨w.heap.size, 0, none⟩ = some (.int .i64 h) ∧ W.cell? ⟨w.heap.size, 1, none⟩ = some (.int .i64 r) ∧ W.cell? ⟨w.heap.size, 2, none⟩ = some (.int .i64 s)) W) := fun W H G => ⟨G.cell 0 rfl, G.cell 1 rfl, G.cell 2 rfl, H.cell 0 rfl, H.cell 1 rfl, H.cell 2 rfl⟩
  clear HX3 HY3 HB3
  go_wp2_with fail
  refine wp_region_held_drew (S := (fun W : World => W.cell? ⟨w.heap.size + 1, 0, none⟩ = some (.int .i64 xh) ∧ W.cell? ⟨w.heap.size + 1, 1, none⟩ = some (.int .i64 xr) ∧ W.cell? ⟨w.heap.size + 1, 2, none⟩ = some (.int .i64 xs) ∧ W.cell? ⟨w.heap.size, 0, none⟩ = some (.int .i64 h) ∧ W.cell? ⟨w.heap.size, 1, none⟩ = some (.int .i64 r) ∧ W.cell? ⟨w.heap.size, 2, none⟩ = some (.int .i64 s))) (by kernel_rfl) ?_ (fun hHeld => ?_)
  · exact HYS.out _ HXd.out HYd.out
  generalize w3.drew = wd at *
  refine wpAnyH_take (i := 0) (oi := { dst := some 14, op := Go.Op.fieldAddr 31 (Go.Operand.tmp 3) 0, type := 0, pos := "l14_guard.go:126", after := #[], guard := none }) (v := ?_) rfl (by kernel_rfl) (by kernel_rfl) (by kernel_rfl) (fun _ _ _ h => h) (Or.inl ⟨by rfl, ?_⟩) hHeld ?_
  rotate_left
  · intro w hSw
    try dsimp only at hSw
    go_simp
    try (with_reducible rfl)
  simp only [Act.put, List.setIfInBounds_toArray, List.set_cons_zero, List.set_cons_succ]
  refine wpAnyH_take (i := 1) (oi := { dst := some 15, op := Go.Op.load 3 (Go.Operand.tmp 14), type := 3, pos := "l14_guard.go:126", after := #[{ on := 0, ground := Go.Ground.data }], guard := none }) (v := ?_) rfl (by kernel_rfl) (by kernel_rfl) (by kernel_rfl) (fun _ _ _ h => h) (Or.inl ⟨by rfl, ?_⟩) hHeld ?_
  rotate_left
  · intro w hSw
    try dsimp only at hSw
    go_simp
    try (with_reducible rfl)
  simp only [Act.put, List.setIfInBounds_toArray, List.set_cons_zero, List.set_cons_succ]
  refine wpAnyH_take (i := 2) (oi := { dst := some 16, op := Go.Op.fieldAddr 26 (Go.Operand.tmp 2) 0, type := 0, pos := "l14_guard.go:126", after := #[], guard := none }) (v := ?_) rfl (by kernel_rfl) (by kernel_rfl) (by kernel_rfl) (fun _ _ _ h => h) (Or.inl ⟨by rfl, ?_⟩) hHeld ?_
  rotate_left
  · intro w hSw
    try dsimp only at hSw
    go_simp
    try (with_reducible rfl)
  simp only [Act.put, List.setIfInBounds_toArray, List.set_cons_zero, List.set_cons_succ]
  refine wpAnyH_take (i := 3) (oi := { dst := some 17, op := Go.Op.load 3 (Go.Operand.tmp 16), type := 3, pos := "l14_guard.go:126", after := #[{ on := 2, ground := Go.Ground.data }], guard := none }) (v := ?_) rfl (by kernel_rfl) (by kernel_rfl) (by kernel_rfl) (fun _ _ _ h => h) (Or.inl ⟨by rfl, ?_⟩) hHeld ?_
  rotate_left
  · intro w hSw
    try dsimp only at hSw
    go_simp
    try (with_reducible rfl)
  simp only [Act.put, List.setIfInBounds_toArray, List.set_cons_zero, List.set_cons_succ]
  refine wpAnyH_take (i := 5) (oi := { dst := some 19, op := Go.Op.fieldAddr 31 (Go.Operand.tmp 3) 1, type := 0, pos := "l14_guard.go:126", after := #[], guard := none }) (v := ?_) rfl (by kernel_rfl) (by kernel_rfl) (by kernel_rfl) (fun _ _ _ h => h) (Or.inl ⟨by rfl, ?_⟩) hHeld ?_
  rotate_left
  · intro w hSw
    try dsimp only at hSw
    go_simp
    try (with_reducible rfl)
  simp only [Act.put, List.setIfInBounds_toArray, List.set_cons_zero, List.set_cons_succ]
  refine wpAnyH_take (i := 6) (oi := { dst := some 20, op := Go.Op.load 3 (Go.Operand.tmp 19), type := 3, pos := "l14_guard.go:126", after := #[{ on := 5, ground := Go.Ground.data }], guard := none }) (v := ?_) rfl (by kernel_rfl) (by kernel_rfl) (by kernel_rfl) (fun _ _ _ h => h) (Or.inl ⟨by rfl, ?_⟩) hHeld ?_
  rotate_left
  · intro w hSw
    try dsimp only at hSw
    go_simp
    try (with_reducible rfl)
  simp only [Act.put, List.setIfInBounds_toArray, List.set_cons_zero, List.set_cons_succ]
  refine wpAnyH_take (i := 7) (oi := { dst := some 21, op := Go.Op.fieldAddr 26 (Go.Operand.tmp 2) 1, type := 0, pos := "l14_guard.go:126", after := #[], guard := none }) (v := ?_) rfl (by kernel_rfl) (by kernel_rfl) (by kernel_rfl) (fun _ _ _ h => h) (Or.inl ⟨by rfl, ?_⟩) hHeld ?_
  rotate_left
  · intro w hSw
    try dsimp only at hSw
    go_simp
    try (with_reducible rfl)
  simp only [Act.put, List.setIfInBounds_toArray, List.set_cons_zero, List.set_cons_succ]
  refine wpAnyH_take (i := 8) (oi := { dst := some 22, op := Go.Op.load 3 (Go.Operand.tmp 21), type := 3, pos := "l14_guard.go:126", after := #[{ on := 7, ground := Go.Ground.data }], guard := none }) (v := ?_) rfl (by kernel_rfl) (by kernel_rfl) (by kernel_rfl) (fun _ _ _ h => h) (Or.inl ⟨by rfl, ?_⟩) hHeld ?_
  rotate_left
  · intro w hSw
    try dsimp only at hSw
    go_simp
    try (with_reducible rfl)
  simp only [Act.put, List.setIfInBounds_toArray, List.set_cons_zero, List.set_cons_succ]
  refine wpAnyH_take (i := 10) (oi := { dst := some 24, op := Go.Op.fieldAddr 31 (Go.Operand.tmp 3) 2, type := 0, pos := "l14_guard.go:126", after := #[], guard := none }) (v := ?_) rfl (by kernel_rfl) (by kernel_rfl) (by kernel_rfl) (fun _ _ _ h => h) (Or.inl ⟨by rfl, ?_⟩) hHeld ?_
  rotate_left
  · intro w hSw
    try dsimp only at hSw
    go_simp
    try (with_reducible rfl)
  simp only [Act.put, List.setIfInBounds_toArray, List.set_cons_zero, List.set_cons_succ]
  refine wpAnyH_take (i := 11) (oi := { dst := some 25, op := Go.Op.load 3 (Go.Operand.tmp 24), type := 3, pos := "l14_guard.go:126", after := #[{ on := 10, ground := Go.Ground.data }], guard := none }) (v := ?_) rfl (by kernel_rfl) (by kernel_rfl) (by kernel_rfl) (fun _ _ _ h => h) (Or.inl ⟨by rfl, ?_⟩) hHeld ?_
  rotate_left
  · intro w hSw
    try dsimp only at hSw
    go_simp
    try (with_reducible rfl)
  simp only [Act.put, List.setIfInBounds_toArray, List.set_cons_zero, List.set_cons_succ]
  refine wpAnyH_take (i := 12) (oi := { dst := some 26, op := Go.Op.fieldAddr 26 (Go.Operand.tmp 2) 2, type := 0, pos := "l14_guard.go:126", after := #[], guard := none }) (v := ?_) rfl (by kernel_rfl) (by kernel_rfl) (by kernel_rfl) (fun _ _ _ h => h) (Or.inl ⟨by rfl, ?_⟩) hHeld ?_
  rotate_left
  · intro w hSw
    try dsimp only at hSw
    go_simp
    try (with_reducible rfl)
  simp only [Act.put, List.setIfInBounds_toArray, List.set_cons_zero, List.set_cons_succ]
  refine wpAnyH_take (i := 13) (oi := { dst := some 27, op := Go.Op.load 3 (Go.Operand.tmp 26), type := 3, pos := "l14_guard.go:126", after := #[{ on := 12, ground := Go.Ground.data }], guard := none }) (v := ?_) rfl (by kernel_rfl) (by kernel_rfl) (by kernel_rfl) (fun _ _ _ h => h) (Or.inl ⟨by rfl, ?_⟩) hHeld ?_
  rotate_left
  · intro w hSw
    try dsimp only at hSw
    go_simp
    try (with_reducible rfl)
  simp only [Act.put, List.setIfInBounds_toArray, List.set_cons_zero, List.set_cons_succ]
  refine wpAnyH_ready (rs := [4]) (by kernel_rfl) (by decide) ?_
  refine AllReadyH.cons (o := { dst := some 18, op := Go.Op.call { callee := Go.Callee.value (Go.Operand.func 53), args := #[Go.Operand.tmp 15, Go.Operand.tmp 17], argTypes := #[3, 3] }, type := 3, pos := "l14_guard.go:126", after := #[{ on := 1, ground := Go.Ground.data }, { on := 3, ground := Go.Ground.data }], guard := none }) rfl (fun K hK => ?_) AllReadyH.nil
  go_simp
  refine (impl_cmp xh h _).mono ?_
  rintro ee qq ⟨rfl, hqq⟩
  rw [HP0.out]
  have hq2 := hqq.symm
  subst hq2
  refine hK.out _ _ (HYS.out _ HXd.out HYd.out) (fun hHeld => ?_)
  clear hK K
  try simp only [Act.put, List.setIfInBounds_toArray, List.set_cons_zero, List.set_cons_succ]
  refine wpAnyH_ready (rs := [9]) (by kernel_rfl) (by decide) ?_
  refine AllReadyH.cons (o := { dst := some 23, op := Go.Op.call { callee := Go.Callee.value (Go.Operand.func 53), args := #[Go.Operand.tmp 20, Go.Operand.tmp 22], argTypes := #[3, 3] }, type := 3, pos := "l14_guard.go:126", after := #[{ on := 6, ground := Go.Ground.data }, { on := 8, ground := Go.Ground.data }, { on := 4, ground := Go.Ground.chain }], guard := none }) rfl (fun K hK => ?_) AllReadyH.nil
  go_simp
  refine (impl_cmp xr r _).mono ?_
  rintro ee qq ⟨rfl, hqq⟩
  rw [HP1.out]
  have hq2 := hqq.symm
  subst hq2
  refine hK.out _ _ (HYS.out _ HXd.out HYd.out) (fun hHeld => ?_)
  clear hK K
  try simp only [Act.put, List.setIfInBounds_toArray, List.set_cons_zero, List.set_cons_succ]
  refine wpAnyH_ready (rs := [14]) (by kernel_rfl) (by decide) ?_
  refine AllReadyH.cons (o := { dst := some 28, op := Go.Op.call { callee := Go.Callee.value (Go.Operand.func 53), args := #[Go.Operand.tmp 25, Go.Operand.tmp 27], argTypes := #[3, 3] }, type := 3, pos := "l14_guard.go:126", after := #[{ on := 11, ground := Go.Ground.data }, { on := 13, ground := Go.Ground.data }, { on := 9, ground := Go.Ground.chain }], guard := none }) rfl (fun K hK => ?_) AllReadyH.nil
  go_simp
  refine (impl_cmp xs s _).mono ?_
  rintro ee qq ⟨rfl, hqq⟩
  rw [HP2.out]
  have hq2 := hqq.symm
  subst hq2
  refine hK.out _ _ (HYS.out _ HXd.out HYd.out) (fun hHeld => ?_)
  clear hK K
  try simp only [Act.put, List.setIfInBounds_toArray, List.set_cons_zero, List.set_cons_succ]
  refine wpAnyH_ready (rs := [15]) (by kernel_rfl) (by decide) ?_
  refine AllReadyH.cons (o := { dst := some 29, op := Go.Op.buildSlice 83 3 #[(0, Go.Operand.tmp 18), (1, Go.Operand.tmp 23), (2, Go.Operand.tmp 28)], type := 83, pos := "l14_guard.go:126", after := #[{ on := 4, ground := Go.Ground.data }, { on := 9, ground := Go.Ground.data }, { on := 14, ground := Go.Ground.data }], guard := none }) rfl (fun K hK => ?_) AllReadyH.nil
  have HX5 : Hid (Blk (wd.alloc (.cells #[.int .i64 p0, .int .i64 p1, .int .i64 p2] 3)) w.heap.size [.int .i64 h, .int .i64 r, .int .i64 s, .string i] 26) := HXd.out.alloc _
  have HY5 : Hid (Blk (wd.alloc (.cells #[.int .i64 p0, .int .i64 p1, .int .i64 p2] 3)) (w.heap.size + 1) [.int .i64 xh, .int .i64 xr, .int .i64 xs, .string xi, .int .i64 xv] 31) := HYd.out.alloc _
  have HB5 : Hid (Below w.heap.size w (wd.alloc (.cells #[.int .i64 p0, .int .i64 p1, .int .i64 p2] 3))) := HBd.out.trans ((below_one _ _).mono HBd.out.size)
  go_simp
  refine hK.out _ _ (HYS.out _ HX5.out HY5.out) (fun hHeld => ?_)
  clear hK K
  try simp only [Act.put, List.setIfInBounds_toArray, List.set_cons_zero, List.set_cons_succ]
  refine wpAnyH_ready (rs := [16]) (by kernel_rfl) (by decide) ?_
  refine AllReadyH.cons (o := { dst := some 30, op := Go.Op.call { callee := Go.Callee.value (Go.Operand.func 52), args := #[Go.Operand.tmp 29], argTypes := #[83] }, type := 3, pos := "l14_guard.go:126", after := #[{ on := 15, ground := Go.Ground.data }, { on := 14, ground := Go.Ground.chain }], guard := none }) rfl (fun K hK => ?_) AllReadyH.nil
  go_simp
  refine (impl_or _ p0 p1 p2 _ (blk_new _ _ _)).mono ?_
  rintro ee qq ⟨rfl, hqq⟩
  rw [HQ.out]
  have hq2 := hqq.symm
  subst hq2
  refine hK.out _ _ (HYS.out _ HX5.out HY5.out) (fun hHeld => ?_)
  clear hK K
  try simp only [Act.put, List.setIfInBounds_toArray, List.set_cons_zero, List.set_cons_succ]
  refine wpAnyH_take (i := 17) (oi := { dst := some 5, op := Go.Op.assign (Go.Operand.tmp 30), type := 3, pos := "l14_guard.go:126", after := #[{ on := 16, ground := Go.Ground.data }, { on := 16, ground := Go.Ground.chain }, { on := 0, ground := Go.Ground.phase }, { on := 1, ground := Go.Ground.phase }, { on := 2, ground := Go.Ground.phase }, { on := 3, ground := Go.Ground.phase }, { on := 4, ground := Go.Ground.phase }, { on := 5, ground := Go.Ground.phase }, { on := 6, ground := Go.Ground.phase }, { on := 7, ground := Go.Ground.phase }, { on := 8, ground := Go.Ground.phase }, { on := 9, ground := Go.Ground.phase }, { on := 10, ground := Go.Ground.phase }, { on := 11, ground := Go.Ground.phase }, { on := 12, ground := Go.Ground.phase }, { on := 13, ground := Go.Ground.phase }, { on := 14, ground := Go.Ground.phase }, { on := 15, ground := Go.Ground.phase }, { on := 16, ground := Go.Ground.phase }], guard := none }) (v := ?_) rfl (by kernel_rfl) (by kernel_rfl) (by kernel_rfl) (fun _ _ _ h => h) (Or.inl ⟨by rfl, ?_⟩) hHeld ?_
  rotate_left
  · intro w hSw
    try dsimp only at hSw
    go_simp
    try (with_reducible rfl)
  simp only [Act.put, List.setIfInBounds_toArray, List.set_cons_zero, List.set_cons_succ]
  refine wpAnyH_done (by kernel_rfl) ?_ _
  clear hHeld
  generalize (wd.alloc _ : World) = w5 at *
  clear HXd HYd HBd HYS
  have c3 := HX5.out.cell 3 rfl
  have v3 := HY5.out.cell 3 rfl
  by_cases h1 : 0 < q
  · have HR : Hid (R = 0) := by show _ = _; rw [HM.out]; have hp0 := HP0.out; have hp1 := HP1.out; have hp2 := HP2.out; have hq := HQ.out; clear HM HP0 HP1 HP2 HQ; unfold may3; unfold or3 at hq; unfold cmpI at hp0 hp1 hp2; (repeat' split) <;> (repeat' split at *) <;> omega
    go_wp2
    go_ret
    exact ⟨by rw [HR.out]; rfl, HB5.out⟩
  · by_cases h2 : q < 0
    · have HR : Hid (R = 2) := by show _ = _; rw [HM.out]; have hp0 := HP0.out; have hp1 := HP1.out; have hp2 := HP2.out; have hq := HQ.out; clear HM HP0 HP1 HP2 HQ; unfold may3; unfold or3 at hq; unfold cmpI at hp0 hp1 hp2; (repeat' split) <;> (repeat' split at *) <;> omega
      go_wp2
      go_ret
      exact ⟨by rw [HR.out]; rfl, HB5.out⟩
    · have HE : Hid (xh = h ∧ xr = r ∧ xs = s) := by show _ ∧ _; have hp0 := HP0.out; have hp1 := HP1.out; have hp2 := HP2.out; have hq := HQ.out; clear HM HP0 HP1 HP2 HQ; unfold or3 at hq; unfold cmpI at hp0 hp1 hp2; (repeat' split at *) <;> omega
      obtain ⟨e0, e1, e2⟩ := HE.out
      by_cases hi : xi = i
      · have HR : Hid (R = 1) := by show _ = _; rw [HM.out, decide_eq_true hi]; unfold may3; (repeat' split) <;> first | omega | simp_all
        clear e0 e1 e2 HM HE
        subst hi
        go_wp2
        go_ret
        exact ⟨by rw [HR.out]; rfl, HB5.out⟩
      · have HR : Hid (R = 3) := by show _ = _; rw [HM.out, decide_eq_false hi]; unfold may3; (repeat' split) <;> first | omega | simp_all
        have hb : (xi.toList == i.toList) = false := by rw [beq_str, decide_eq_false hi]
        clear e0 e1 e2 HM HE
        go_wp2
        go_ret
        exact ⟨by rw [HR.out]; rfl, HB5.out⟩
end Go.Proofs.Ytmjlpdmdpagggaa
