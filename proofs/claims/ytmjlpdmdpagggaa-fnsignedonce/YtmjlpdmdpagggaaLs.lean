/- What the laws' helpers markVoteS, heldVoteS and those of a signer answer; only the marked row is written. Conditions: what a machine can hold. -/
import Derived.Test.YtmjlpdmdpagggaaSn
namespace Go.Proofs.Ytmjlpdmdpagggaa
open Go.RowKit
open Num
set_option linter.unusedVariables false
/-- So many votes, marked from k on. -/
def mkv (k : Nat) (j : Nat) : Vt := ⟨((k + 5 * j : Nat) : Int), ((k + 5 * j : Nat) : Int) + 1, ((k + 5 * j : Nat) : Int) + 1 + 1, mtxt (k + 5 * j + 3), ((k + 5 * j : Nat) : Int) + 1 + 1 + 1 + 1⟩
def marks (k : Nat) : Nat → List Vt
  | 0 => []
  | n + 1 => marks k n ++ [mkv k n]
theorem marks_length (k : Nat) : ∀ n, (marks k n).length = n
  | 0 => rfl
  | n + 1 => by rw [marks, List.length_append, marks_length k n]; rfl
theorem marks_at (k : Nat) : ∀ n j (h : j < (marks k n).length), (marks k n)[j] = mkv k j
  | n + 1, j, h => by
    have hl := marks_length k n
    have hl' := marks_length k (n + 1)
    by_cases e : j = n
    · subst e
      have : (marks k (j + 1))[j]? = some (mkv k j) := by
        rw [marks, List.getElem?_append_right (by omega), hl]; simp
      rw [List.getElem?_eq_getElem h] at this
      exact Option.some.inj this
    · have ih := marks_at k n j (by omega)
      have : (marks k (n + 1))[j]? = some (mkv k j) := by
        rw [marks, List.getElem?_append_left (by omega), List.getElem?_eq_getElem (by omega), ih]
      rw [List.getElem?_eq_getElem h] at this
      exact Option.some.inj this
set_option maxHeartbeats 3200000 in
set_option maxRecDepth 100000 in
theorem mark_y (b cap n k : Nat) (w : World) (hr : Room w b 0 (n * 5)) (hn : n ≤ 1048576) (hk : k ≤ 1048576) :
    Calls Try.prog 62 #[.slice (some ⟨b, 0, none⟩) n cap, .int .i64 (k : Int)] w fun e w' => e = .returned (.int .i64 ((k + 5 * n : Nat) : Int)) ∧ YAt w' b 0 (marks k n) ∧ w.grownBy w' (some b) := by
  have HR0 : Hid (Room w b 0 (n * 5)) := hr
  clear hr
  go_enter Try.func62, Try.ntmps62
  go_wp2
  go_loopw [5, 1] (fun iv kv wr => ∃ j : Nat, j ≤ n ∧ iv = .int .i64 j ∧ kv = .int .i64 ((k + 5 * j : Nat) : Int) ∧ Hid (YAt wr b 0 (marks k j)) ∧ Hid (Room wr b 0 (n * 5)) ∧ Hid (w.grownBy wr (some b))) (fun iv _ _ => n - (intOf iv).toNat)
  case atStart => exact ⟨0, Nat.zero_le _, rfl, by simp, fun j hj => by simp [marks] at hj, HR0.out, grown_refl _ _⟩
  case round =>
    clear HR0
    obtain ⟨j, hj, rfl, rfl, HA, HR, HG⟩ := hrel
    by_cases hlt : j < n
    · have hltz : (j : Int) < (n : Int) := by omega
      have kM := fun W => mtext_any (k + 5 * j + 3) (by omega) (by omega) W
      rw [show ((k + 5 * j + 3 : Nat) : Int) = ((k + 5 * j : Nat) : Int) + 1 + 1 + 1 from by omega] at kM
      have HM : Hid (marks k (j + 1) = marks k j ++ [mkv k j]) := rfl
      unfold mkv at HM
      have HE : Hid (((k + 5 * j : Nat) : Int) + 1 + 1 + 1 + 1 + 1 = ((k + 5 * (j + 1) : Nat) : Int)) := by show _ = _; omega
      generalize mtxt (k + 5 * j + 3) = T at *
      obtain ⟨K, hK⟩ : ∃ K : Int, ((k + 5 * j : Nat) : Int) = K := ⟨_, rfl⟩
      have hK0 : 0 ≤ K := by omega
      have hK1 : K ≤ 1099511627776 := by omega
      rw [hK] at kM ⊢
      have HM2 : Hid (marks k (j + 1) = marks k j ++ [⟨K, K + 1, K + 1 + 1, T, K + 1 + 1 + 1 + 1⟩]) := by show _ = _; rw [HM.out, hK]
      have HE2 : Hid (K + 1 + 1 + 1 + 1 + 1 = ((k + 5 * (j + 1) : Nat) : Int)) := by show _ = _; rw [← hK]; exact HE.out
      have HL : Hid ((marks k j).length = j) := marks_length k j
      clear hK HM HE
      have HZq : Hid (∃ Z, marks k (j + 1) = Z) := ⟨_, rfl⟩
      obtain ⟨Z, hZq⟩ := HZq.out
      rw [hZq] at HM2
      have HZ : Hid (marks k (j + 1) = Z) := hZq
      clear HZq hZq
      generalize marks k j = X at *
      have hcell : ∀ (W : World) c, Room W b 0 (n * 5) → c < 5 → ∃ u, W.cell? ⟨b, j * 5 + c, none⟩ = some u ∧ W.frozen? ⟨b, j * 5 + c, none⟩ = false := fun W c h hc => by
        obtain ⟨s, f⟩ := h (j * 5 + c) (by omega)
        rw [Nat.zero_add] at s f
        obtain ⟨u, e⟩ := Option.isSome_iff_exists.1 s
        exact ⟨u, e, f⟩
      obtain ⟨u0, e0, f0⟩ := hcell wr 0 HR.out (by omega)
      rw [Nat.add_zero] at e0 f0
      obtain ⟨u1, e1, f1⟩ := hcell wr 1 HR.out (by omega)
      obtain ⟨u2, e2, f2⟩ := hcell wr 2 HR.out (by omega)
      have hq1 : (wr.setCell ⟨b, j * 5, none⟩ (.int .i64 K)).cell? ⟨b, j * 5 + 1, none⟩ = some u1 := by rw [cell_off _ _ _ _ _ (by omega), e1]
      have hq2 : ((wr.setCell ⟨b, j * 5, none⟩ (.int .i64 K)).setCell ⟨b, j * 5 + 1, none⟩ (.int .i64 (K + 1))).cell? ⟨b, j * 5 + 2, none⟩ = some u2 := by rw [cell_off _ _ _ _ _ (by omega), cell_off _ _ _ _ _ (by omega), e2]
      obtain ⟨w1, hw1⟩ : ∃ W, set3 wr b (j * 5) (.int .i64 K) (.int .i64 (K + 1)) (.int .i64 (K + 1 + 1)) = W := ⟨_, rfl⟩
      have HS1 : Hid (w1 = set3 wr b (j * 5) (.int .i64 K) (.int .i64 (K + 1)) (.int .i64 (K + 1 + 1))) := hw1.symm
      have hw1' : ((wr.setCell ⟨b, j * 5, none⟩ (.int .i64 K)).setCell ⟨b, j * 5 + 1, none⟩ (.int .i64 (K + 1))).setCell ⟨b, j * 5 + 2, none⟩ (.int .i64 (K + 1 + 1)) = w1 := hw1
      have HR1 : Hid (Room w1 b 0 (n * 5)) := by rw [← hw1]; exact ((HR.out.set _ _ _).set _ _ _).set _ _ _
      clear hw1
      go_wp2_with fail
      try rw [hw1']
      clear hw1' hq1 hq2 e0 e1 e2 f0 f1 f2
      refine (kM _).mono ?_
      rintro e w2 ⟨rfl, b2⟩
      have HR2 : Hid (Room w2 b 0 (n * 5)) := HR1.out.below b2
      have HB2 : Hid (Below w1.heap.size w1 w2) := b2
      clear b2 kM HR1
      obtain ⟨u3, e3, f3⟩ := hcell w2 3 HR2.out (by omega)
      obtain ⟨u4, e4, f4⟩ := hcell w2 4 HR2.out (by omega)
      have hq4 : (w2.setCell ⟨b, j * 5 + 3, none⟩ (.string T)).cell? ⟨b, j * 5 + 4, none⟩ = some u4 := by rw [cell_off _ _ _ _ _ (by omega), e4]
      have HN := YAt.marked (v := ⟨K, K + 1, K + 1 + 1, T, K + 1 + 1 + 1 + 1⟩) HA.out HL.out HS1.out HB2.out rfl HR.out (show j * 5 + 4 < n * 5 by omega)
      rw [← HM2.out] at HN
      obtain ⟨n1, n2, n3⟩ := HN
      have HN1 : Hid (YAt ((w2.setCell ⟨b, j * 5 + 3, none⟩ (.string T)).setCell ⟨b, j * 5 + 4, none⟩ (.int .i64 (K + 1 + 1 + 1 + 1))) b 0 Z) := n1
      have HN2 : Hid (Room ((w2.setCell ⟨b, j * 5 + 3, none⟩ (.string T)).setCell ⟨b, j * 5 + 4, none⟩ (.int .i64 (K + 1 + 1 + 1 + 1))) b 0 (n * 5)) := n2
      have HN3 : Hid (w.grownBy ((w2.setCell ⟨b, j * 5 + 3, none⟩ (.string T)).setCell ⟨b, j * 5 + 4, none⟩ (.int .i64 (K + 1 + 1 + 1 + 1))) (some b)) := grown_trans HG.out n3
      clear n1 n2 n3 HR2 HS1 HB2 HA HR HG hcell
      go_wp2
      go_roundw
      case rel => exact ⟨j + 1, by omega, by go_num, by rw [← HE2.out], (by show YAt _ _ _ _; rw [HZ.out]; exact HN1.out), HN2, HN3⟩
      case measure => simp [intOf]; omega
    · have hltz : ¬ (j : Int) < (n : Int) := by omega
      have hjl : j = n := by omega
      subst hjl
      go_wp2
      go_ret
      exact ⟨rfl, HA.out, HG.out⟩
set_option maxHeartbeats 3200000 in
set_option maxRecDepth 100000 in
theorem held_y (a : Option Addr) (cap n k : Nat) (w : World) (hv : YO w a (marks k n)) (hn : n ≤ 1048576) (hk : k ≤ 1048576) :
    Calls Try.prog 63 #[.slice a n cap, .int .i64 (k : Int)] w fun e w' => e = .returned (.int .i64 ((k + 5 * n : Nat) : Int)) ∧ Below w.heap.size w w' := by
  have HL : Hid (YO w a (marks k n)) := hv
  clear hv
  go_enter Try.func63, Try.ntmps63
  go_wp2
  go_loopw [5, 1] (fun iv kv wr => ∃ j : Nat, j ≤ n ∧ iv = .int .i64 j ∧ kv = .int .i64 ((k + 5 * j : Nat) : Int) ∧ Below w.heap.size w wr) (fun iv _ _ => n - (intOf iv).toNat)
  case atStart => exact ⟨0, Nat.zero_le _, rfl, by simp, Below.refl _ _⟩
  case round =>
    obtain ⟨j, hj, rfl, rfl, hb⟩ := hrel
    by_cases hlt : j < n
    · have hltz : (j : Int) < (n : Int) := by omega
      have hlm := marks_length k n
      rcases HL.out with h0 | ⟨b, o, rfl, hv0⟩
      · omega
      have hc5 := (hv0.below hb (hv0.lt (by omega))).five j (by omega)
      rw [marks_at] at hc5
      unfold mkv at hc5
      simp only at hc5
      obtain ⟨c0, c1, c2, c3, c4⟩ := hc5
      have kM := fun W => mtext_any (k + 5 * j + 3) (by omega) (by omega) W
      rw [show ((k + 5 * j + 3 : Nat) : Int) = ((k + 5 * j : Nat) : Int) + 1 + 1 + 1 from by omega] at kM
      have HE : Hid (((k + 5 * j : Nat) : Int) + 1 + 1 + 1 + 1 + 1 = ((k + 5 * (j + 1) : Nat) : Int)) := by show _ = _; omega
      generalize mtxt (k + 5 * j + 3) = T at *
      have hbq : (T.toList == T.toList) = true := by simp
      obtain ⟨K, hK⟩ : ∃ K : Int, ((k + 5 * j : Nat) : Int) = K := ⟨_, rfl⟩
      have hK0 : 0 ≤ K := by omega
      have hK1 : K ≤ 1099511627776 := by omega
      rw [hK] at kM c0 c1 c2 c4 ⊢
      have HE2 : Hid (K + 1 + 1 + 1 + 1 + 1 = ((k + 5 * (j + 1) : Nat) : Int)) := by show _ = _; rw [← hK]; exact HE.out
      clear hK HE hv0 hlm
      have HC4 : Hid (wr.cell? ⟨b, o + j * 5 + 4, none⟩ = some (.int .i64 (K + 1 + 1 + 1 + 1))) := c4
      have hne := bel_some wr
      have p3 := fun p : Bel wr => p.cell c3
      go_wp2_with fail
      refine wp_region_below (by kernel_rfl) (by kernel_rfl) ?_
      repeat (go_big_quiet_step ((go_at_call 79; exact bel_of (kM _))))
      refine wpQuiet_nil ?_
      intro _ hw'
      obtain ⟨pq, hw''⟩ := hw'
      subst hw''
      have hb3 := hb.trans (pq.h.mono hb.size)
      have d4 := pq.cell HC4.out
      clear c0 c1 c2 c3 c4 p3
      go_wp2
      go_roundw
      case rel => exact ⟨j + 1, by omega, by go_num, by rw [← HE2.out], hb3⟩
      case measure => simp [intOf]; omega
    · have hltz : ¬ (j : Int) < (n : Int) := by omega
      have hjl : j = n := by omega
      subst hjl
      go_wp2
      go_ret
      exact ⟨rfl, hb⟩
theorem mark_nil (a : Option Addr) (cap k : Nat) (w : World) :
    Calls Try.prog 62 #[.slice a 0 cap, .int .i64 (k : Int)] w fun e w' => e = .returned (.int .i64 (k : Int)) ∧ w' = w := by
  go_enter Try.func62, Try.ntmps62
  go_wp2
  refine wp_loop_rounds 1 ?_
  rw [rounds_succ]
  go_wp2
  go_ret
  exact ⟨rfl, rfl⟩
theorem mark_row (a : Option Addr) (cap n k B : Nat) (w : World) (h : Mk w B a n) (hn : n ≤ 1048576) (hk : k ≤ 1048576) :
    Calls Try.prog 62 #[.slice a n cap, .int .i64 (k : Int)] w fun e w' => e = .returned (.int .i64 ((k + 5 * n : Nat) : Int)) ∧ YO w' a (marks k n) ∧ ∃ r : Option Nat, (∀ j, r = some j → B ≤ j ∧ a = some ⟨j, 0, none⟩) ∧ w.grownBy w' r := by
  rcases h with rfl | ⟨b, rfl, h1, _, h2⟩
  · refine (mark_nil a cap k w).mono ?_
    rintro e w' ⟨rfl, rfl⟩
    exact ⟨by simp, .inl (marks_length k 0), none, fun j e => (by cases e), grown_refl _ _⟩
  · refine (mark_y b cap n k w h2 hn hk).mono ?_
    rintro e w' ⟨rfl, h3, h4⟩
    exact ⟨rfl, .inr ⟨b, 0, rfl, h3⟩, some b, fun j e => (by injection e with e; subst e; exact ⟨h1, rfl⟩), h4⟩
set_option maxHeartbeats 800000 in
set_option maxRecDepth 100000 in
theorem mark_sg (x : Sg) (a : Option Addr) (cap k B : Nat) (w : World) (h : Mk w B a x.o.length) (hn : x.o.length ≤ 1048576) (hk : k ≤ 1048576) (hB : B ≤ w.heap.size) :
    Calls Try.prog 33 #[sV x a cap, .int .i64 (k : Int)] w fun e w' => e = .returned (.int .i64 ((k + 5 * x.o.length : Nat) : Int)) ∧ YO w' a (marks k x.o.length) ∧ ∃ r : Option Nat, (∀ j, r = some j → B ≤ j ∧ a = some ⟨j, 0, none⟩) ∧ w.grownBy w' r := by
  obtain ⟨v, ⟨dh, dr, ds, di⟩, ⟨mh, mr, ms, mi⟩, p, o⟩ := x
  unfold sV sQ
  simp only at h hn ⊢
  have HG : Hid (∀ o : Obj, w.grownBy (w.alloc o) none) := fun o => grown_alloc (grown_refl _ _) o
  have HM : Hid (Mk (w.alloc (.cells #[.int .i64 v, .int .i64 dh, .int .i64 dr, .int .i64 ds, .string di, .int .i64 mh, .int .i64 mr, .int .i64 ms, .string mi, .bool p, .slice a o.length cap] 29)) B a o.length) := h.below (below_one _ _)
  have HG1 : Hid (w.grownBy (w.alloc (.cells #[.int .i64 v, .int .i64 dh, .int .i64 dr, .int .i64 ds, .string di, .int .i64 mh, .int .i64 mr, .int .i64 ms, .string mi, .bool p, .slice a o.length cap] 29)) none) := grown_alloc (grown_refl _ _) _
  obtain ⟨R, hR⟩ : ∃ R : Int, ((k + 5 * o.length : Nat) : Int) = R := ⟨_, rfl⟩
  have kM := fun W (h : Mk W B a o.length) => mark_row a cap o.length k B W h hn hk
  rw [hR] at kM ⊢
  clear h hR
  go_enter Try.func33, Try.ntmps33
  go_wp2_with fail
  generalize w.alloc (.cells #[.int .i64 v, .int .i64 dh, .int .i64 dr, .int .i64 ds, .string di, .int .i64 mh, .int .i64 mr, .int .i64 ms, .string mi, .bool p, .slice a o.length cap] 29) = w1 at *
  refine (kM _ HM.out).mono ?_
  rintro e w2 ⟨rfl, h1, r, hr, hg⟩
  have HY : Hid (YO w2 a (marks k o.length)) := h1
  have HG2 : Hid (∃ r : Option Nat, (∀ j, r = some j → B ≤ j ∧ a = some ⟨j, 0, none⟩) ∧ w.grownBy w2 r) := ⟨r, hr, grown_trans (grown_of ⟨HG1.out.os, HG1.out.tape, HG1.out.output, HG1.out.size, fun k hk => HG1.out.block k hk (by simp)⟩) hg⟩
  clear h1 hr hg
  go_wp2
  go_ret
  exact ⟨rfl, HY.out, HG2.out⟩
set_option maxHeartbeats 800000 in
set_option maxRecDepth 100000 in
theorem held_sg (x : Sg) (a : Option Addr) (cap k : Nat) (w : World) (hv : YO w a (marks k x.o.length)) (hn : x.o.length ≤ 1048576) (hk : k ≤ 1048576) :
    Calls Try.prog 34 #[sV x a cap, .int .i64 (k : Int)] w fun e w' => e = .returned (.int .i64 ((k + 5 * x.o.length : Nat) : Int)) ∧ Below w.heap.size w w' := by
  obtain ⟨v, ⟨dh, dr, ds, di⟩, ⟨mh, mr, ms, mi⟩, p, o⟩ := x
  unfold sV sQ
  simp only at hv hn ⊢
  have HY : Hid (YO (w.alloc (.cells #[.int .i64 v, .int .i64 dh, .int .i64 dr, .int .i64 ds, .string di, .int .i64 mh, .int .i64 mr, .int .i64 ms, .string mi, .bool p, .slice a o.length cap] 29)) a (marks k o.length)) := hv.below (below_one _ _)
  have HB : Hid (Below w.heap.size w (w.alloc (.cells #[.int .i64 v, .int .i64 dh, .int .i64 dr, .int .i64 ds, .string di, .int .i64 mh, .int .i64 mr, .int .i64 ms, .string mi, .bool p, .slice a o.length cap] 29))) := below_one _ _
  obtain ⟨R, hR⟩ : ∃ R : Int, ((k + 5 * o.length : Nat) : Int) = R := ⟨_, rfl⟩
  have hR0 : ¬ R < 0 := by omega
  have kM := fun W (h : YO W a (marks k o.length)) => held_y a cap o.length k W h hn hk
  rw [hR] at kM ⊢
  clear hv hR
  go_enter Try.func34, Try.ntmps34
  go_wp2_with fail
  generalize w.alloc (.cells #[.int .i64 v, .int .i64 dh, .int .i64 dr, .int .i64 ds, .string di, .int .i64 mh, .int .i64 mr, .int .i64 ms, .string mi, .bool p, .slice a o.length cap] 29) = w1 at *
  refine (kM _ HY.out).mono ?_
  rintro e w2 ⟨rfl, b2⟩
  have HB2 : Hid (Below w.heap.size w w2) := HB.out.trans (b2.mono HB.out.size)
  clear b2
  go_wp2
  go_ret
  exact ⟨rfl, HB2.out⟩
set_option maxHeartbeats 1600000 in
set_option maxRecDepth 100000 in
theorem sz_sg (x : Sg) (a : Option Addr) (cap : Nat) (w : World) (hl : YO w a x.o) (hd : x.d.i.size ≤ 9223372036854775807) (hm : x.m.i.size ≤ 9223372036854775807) (hlen : x.o.length ≤ 9223372036854775807) (hs : ∀ y ∈ x.o, SzV y) :
    Calls Try.prog 27 #[sV x a cap, .int .i64 1048576] w fun e w' => ∃ q : Int, e = .returned (.int .i64 q) ∧ Hid (0 ≤ q → x.d.i.size ≤ 1048576 ∧ x.m.i.size ≤ 1048576 ∧ x.o.length ≤ 1048576 ∧ ∀ y ∈ x.o, SmV y) ∧ Below w.heap.size w w' := by
  have kD := fun left W (h0 : 0 ≤ left) (h1 : left ≤ 1048576) => sz_gd x.d left W hd h0 h1
  have kN := fun left W (h0 : 0 ≤ left) (h1 : left ≤ 1048576) => sz_gd x.m left W hm h0 h1
  have kO := fun left W (h : YO W a x.o) (h0 : 0 ≤ left) (h1 : left ≤ 1048576) => szs_y a x.o cap left W h hlen hs h0 h1
  clear hd hm hs
  have HP : Hid (x.d.i.size ≤ 1048576 → x.m.i.size ≤ 1048576 → (x.o.length ≤ 1048576 ∧ ∀ y ∈ x.o, SmV y) → (x.d.i.size ≤ 1048576 ∧ x.m.i.size ≤ 1048576 ∧ x.o.length ≤ 1048576 ∧ ∀ y ∈ x.o, SmV y)) := fun a b c => ⟨a, b, c.1, c.2⟩
  generalize (x.d.i.size ≤ 1048576 ∧ x.m.i.size ≤ 1048576 ∧ x.o.length ≤ 1048576 ∧ ∀ y ∈ x.o, SmV y) = P at *
  generalize (x.o.length ≤ 1048576 ∧ ∀ y ∈ x.o, SmV y) = P3 at *
  generalize (x.m.i.size ≤ 1048576) = P2 at *
  generalize (x.d.i.size ≤ 1048576) = P1 at *
  obtain ⟨v, ⟨dh, dr, ds, di⟩, ⟨mh, mr, ms, mi⟩, p, o⟩ := x
  unfold sV sQ
  unfold gV at kD kN
  simp only at *
  have HY : Hid (YO (w.alloc (.cells #[.int .i64 v, .int .i64 dh, .int .i64 dr, .int .i64 ds, .string di, .int .i64 mh, .int .i64 mr, .int .i64 ms, .string mi, .bool p, .slice a o.length cap] 50)) a o) := hl.below (below_one _ _)
  have HB : Hid (Below w.heap.size w (w.alloc (.cells #[.int .i64 v, .int .i64 dh, .int .i64 dr, .int .i64 ds, .string di, .int .i64 mh, .int .i64 mr, .int .i64 ms, .string mi, .bool p, .slice a o.length cap] 50))) := below_one _ _
  have HX : Hid (Blk (w.alloc (.cells [.int .i64 v, .int .i64 dh, .int .i64 dr, .int .i64 ds, .string di, .int .i64 mh, .int .i64 mr, .int .i64 ms, .string mi, .bool p, .slice a o.length cap].toArray 50)) w.heap.size [.int .i64 v, .int .i64 dh, .int .i64 dr, .int .i64 ds, .string di, .int .i64 mh, .int .i64 mr, .int .i64 ms, .string mi, .bool p, .slice a o.length cap] 50) := blk_new _ _ _
  clear hl
  go_enter Try.func27, Try.ntmps27
  go_wp2_with fail
  generalize w.alloc (.cells #[.int .i64 v, .int .i64 dh, .int .i64 dr, .int .i64 ds, .string di, .int .i64 mh, .int .i64 mr, .int .i64 ms, .string mi, .bool p, .slice a o.length cap] 50) = w1 at *
  refine (kD _ _ (by omega) (by omega)).mono ?_
  rintro e w2 ⟨q, rfl, hq0, hq1, HQ, b2⟩
  have HB2 : Hid (Below w.heap.size w w2) := HB.out.trans (b2.mono HB.out.size)
  have HY2 : Hid (YO w2 a o) := HY.out.below b2
  have HX2 : Hid (Blk w2 w.heap.size [.int .i64 v, .int .i64 dh, .int .i64 dr, .int .i64 ds, .string di, .int .i64 mh, .int .i64 mr, .int .i64 ms, .string mi, .bool p, .slice a o.length cap] 50) := HX.out.below b2 HX.out.lt
  clear b2 HB HY HX kD
  by_cases hq : q < 0
  · go_wp2
    go_ret
    exact ⟨_, rfl, fun h => absurd h (by decide), HB2.out⟩
  have H1 : Hid P1 := HQ.out (by omega)
  clear HQ
  have x5 := HX2.out.cell 5 rfl
  have x6 := HX2.out.cell 6 rfl
  have x7 := HX2.out.cell 7 rfl
  have x8 := HX2.out.cell 8 rfl
  go_wp2_with fail
  refine (kN _ _ (by omega) (by omega)).mono ?_
  rintro e w3 ⟨q2, rfl, hr0, hr1, HQ, b3⟩
  have HB3 : Hid (Below w.heap.size w w3) := HB2.out.trans (b3.mono HB2.out.size)
  have HY3 : Hid (YO w3 a o) := HY2.out.below b3
  have HX3 : Hid (Blk w3 w.heap.size [.int .i64 v, .int .i64 dh, .int .i64 dr, .int .i64 ds, .string di, .int .i64 mh, .int .i64 mr, .int .i64 ms, .string mi, .bool p, .slice a o.length cap] 50) := HX2.out.below b3 HX2.out.lt
  clear b3 HB2 HY2 HX2 kN x5 x6 x7 x8
  by_cases hq2 : q2 < 0
  · go_wp2
    go_ret
    exact ⟨_, rfl, fun h => absurd h (by decide), HB3.out⟩
  have H2 : Hid P2 := HQ.out (by omega)
  clear HQ
  have x10 := HX3.out.cell 10 rfl
  go_wp2_with fail
  refine (kO _ _ HY3.out (by omega) (by omega)).mono ?_
  rintro e w4 ⟨q3, rfl, HQ, b4⟩
  have HB4 : Hid (Below w.heap.size w w4) := HB3.out.trans (b4.mono HB3.out.size)
  clear b4 HB3 HY3 HX3 kO x10
  by_cases hq3 : q3 < 0
  · go_wp2
    go_ret
    exact ⟨_, rfl, fun h => absurd h (by decide), HB4.out⟩
  have H3 : Hid P := HP.out H1.out H2.out (HQ.out (by omega))
  clear HQ HP
  go_wp2
  go_ret
  exact ⟨_, rfl, fun _ => H3.out, HB4.out⟩
set_option maxHeartbeats 1600000 in
set_option maxRecDepth 100000 in
theorem to_sg (x : Sg) (a : Option Addr) (cap : Nat) (w : World) (hl : YO w a x.o) (hlen : x.o.length ≤ 1048576) :
    Calls Try.prog 28 #[sV x a cap] w fun e w' => ∃ u, e = .returned (sV x u x.o.length) ∧ Hid (Yop w' w.heap.size x.o u) ∧ Below w.heap.size w w' := by
  have kD := fun W => to_gd x.d W
  have kN := fun W => to_gd x.m W
  have kO := fun W (h : YO W a x.o) => to_row a x.o cap W h hlen
  obtain ⟨v, ⟨dh, dr, ds, di⟩, ⟨mh, mr, ms, mi⟩, p, o⟩ := x
  unfold sV sQ
  unfold gV at kD kN
  simp only at *
  have HY : Hid (YO w a o) := hl
  clear hl
  obtain ⟨W0, hW0⟩ : ∃ W, ((w.alloc (.cells #[.int .i64 v, .int .i64 dh, .int .i64 dr, .int .i64 ds, .string di, .int .i64 mh, .int .i64 mr, .int .i64 ms, .string mi, .bool p, .slice a o.length cap] 50)).alloc (.cells #[.int .i64 0, .int .i64 0, .int .i64 0, .int .i64 0, .string ⟨#[]⟩, .int .i64 0, .int .i64 0, .int .i64 0, .string ⟨#[]⟩, .bool false, .slice none 0 0] 29)).alloc (.cells #[.int .i64 0, .int .i64 0, .int .i64 0, .int .i64 0, .string ⟨#[]⟩, .int .i64 0, .int .i64 0, .int .i64 0, .string ⟨#[]⟩, .bool false, .slice none 0 0] 29) = W := ⟨_, rfl⟩
  have HX0 : Hid (Blk W0 w.heap.size [.int .i64 v, .int .i64 dh, .int .i64 dr, .int .i64 ds, .string di, .int .i64 mh, .int .i64 mr, .int .i64 ms, .string mi, .bool p, .slice a o.length cap] 50) := by
    rw [← hW0]
    have h := blk_new (w) [.int .i64 v, .int .i64 dh, .int .i64 dr, .int .i64 ds, .string di, .int .i64 mh, .int .i64 mr, .int .i64 ms, .string mi, .bool p, .slice a o.length cap] 50
    exact ((h.alloc _).alloc _)
  have HR0 : Hid (Blk W0 (w.heap.size + 1) [.int .i64 0, .int .i64 0, .int .i64 0, .int .i64 0, .string ⟨#[]⟩, .int .i64 0, .int .i64 0, .int .i64 0, .string ⟨#[]⟩, .bool false, .slice none 0 0] 29) := by
    rw [← hW0]
    have h := blk_new (w.alloc (.cells #[.int .i64 v, .int .i64 dh, .int .i64 dr, .int .i64 ds, .string di, .int .i64 mh, .int .i64 mr, .int .i64 ms, .string mi, .bool p, .slice a o.length cap] 50)) [.int .i64 0, .int .i64 0, .int .i64 0, .int .i64 0, .string ⟨#[]⟩, .int .i64 0, .int .i64 0, .int .i64 0, .string ⟨#[]⟩, .bool false, .slice none 0 0] 29
    rw [show (w.alloc (.cells #[.int .i64 v, .int .i64 dh, .int .i64 dr, .int .i64 ds, .string di, .int .i64 mh, .int .i64 mr, .int .i64 ms, .string mi, .bool p, .slice a o.length cap] 50)).heap.size = w.heap.size + 1 from by simp] at h
    exact (h.alloc _)
  have HT0 : Hid (Blk W0 (w.heap.size + 2) [.int .i64 0, .int .i64 0, .int .i64 0, .int .i64 0, .string ⟨#[]⟩, .int .i64 0, .int .i64 0, .int .i64 0, .string ⟨#[]⟩, .bool false, .slice none 0 0] 29) := by
    rw [← hW0]
    have h := blk_new ((w.alloc (.cells #[.int .i64 v, .int .i64 dh, .int .i64 dr, .int .i64 ds, .string di, .int .i64 mh, .int .i64 mr, .int .i64 ms, .string mi, .bool p, .slice a o.length cap] 50)).alloc (.cells #[.int .i64 0, .int .i64 0, .int .i64 0, .int .i64 0, .string ⟨#[]⟩, .int .i64 0, .int .i64 0, .int .i64 0, .string ⟨#[]⟩, .bool false, .slice none 0 0] 29)) [.int .i64 0, .int .i64 0, .int .i64 0, .int .i64 0, .string ⟨#[]⟩, .int .i64 0, .int .i64 0, .int .i64 0, .string ⟨#[]⟩, .bool false, .slice none 0 0] 29
    rw [show ((w.alloc (.cells #[.int .i64 v, .int .i64 dh, .int .i64 dr, .int .i64 ds, .string di, .int .i64 mh, .int .i64 mr, .int .i64 ms, .string mi, .bool p, .slice a o.length cap] 50)).alloc (.cells #[.int .i64 0, .int .i64 0, .int .i64 0, .int .i64 0, .string ⟨#[]⟩, .int .i64 0, .int .i64 0, .int .i64 0, .string ⟨#[]⟩, .bool false, .slice none 0 0] 29)).heap.size = w.heap.size + 2 from by simp] at h
    exact h
  have HB0 : Hid (Below w.heap.size w W0) := by rw [← hW0]; exact (((Below.refl w.heap.size w).alloc (Nat.le_refl _) _).alloc (by simp; try omega) _).alloc (by simp; try omega) _
  go_enter Try.func28, Try.ntmps28
  have cX_0 := HX0.out.cell 0 rfl
  have cX_1 := HX0.out.cell 1 rfl
  have cX_2 := HX0.out.cell 2 rfl
  have cX_3 := HX0.out.cell 3 rfl
  have cX_4 := HX0.out.cell 4 rfl
  have cX_5 := HX0.out.cell 5 rfl
  have cX_6 := HX0.out.cell 6 rfl
  have cX_7 := HX0.out.cell 7 rfl
  have cX_8 := HX0.out.cell 8 rfl
  have cX_9 := HX0.out.cell 9 rfl
  have cX_10 := HX0.out.cell 10 rfl
  have cT_0 := HT0.out.cell 0 rfl
  have cT_1 := HT0.out.cell 1 rfl
  have cT_2 := HT0.out.cell 2 rfl
  have cT_3 := HT0.out.cell 3 rfl
  have cT_4 := HT0.out.cell 4 rfl
  have cT_5 := HT0.out.cell 5 rfl
  have cT_6 := HT0.out.cell 6 rfl
  have cT_7 := HT0.out.cell 7 rfl
  have cT_8 := HT0.out.cell 8 rfl
  have cT_9 := HT0.out.cell 9 rfl
  have cT_10 := HT0.out.cell 10 rfl
  have zT := fun j => HT0.out.frozen j
  have KX := (HX0.out.other 0 (.int .i64 v) (show w.heap.size ≠ (w.heap.size + 2) by omega))
  have KR := (HR0.out.other 0 (.int .i64 v) (show (w.heap.size + 1) ≠ (w.heap.size + 2) by omega))
  have KT := (HT0.out.set 0 (.int .i64 v))
  have KB := (HB0.out.setCell (p := ⟨(w.heap.size + 2), 0, none⟩) (show w.heap.size ≤ (w.heap.size + 2) by omega) (.int .i64 v))
  go_upto_region 3 with fail
  clear hW0 cX_0 cX_1 cX_2 cX_3 cX_4 cX_5 cX_6 cX_7 cX_8 cX_9 cX_10 cT_0 cT_1 cT_2 cT_3 cT_4 cT_5 cT_6 cT_7 cT_8 cT_9 cT_10 zT
  generalize ((W0.setCell _ _) : World) = w1 at *
  have HX1 : Hid (Blk w1 w.heap.size [.int .i64 v, .int .i64 dh, .int .i64 dr, .int .i64 ds, .string di, .int .i64 mh, .int .i64 mr, .int .i64 ms, .string mi, .bool p, .slice a o.length cap] 50) := KX
  have HR1 : Hid (Blk w1 (w.heap.size + 1) [.int .i64 0, .int .i64 0, .int .i64 0, .int .i64 0, .string ⟨#[]⟩, .int .i64 0, .int .i64 0, .int .i64 0, .string ⟨#[]⟩, .bool false, .slice none 0 0] 29) := KR
  have HT1 : Hid (Blk w1 (w.heap.size + 2) [.int .i64 v, .int .i64 0, .int .i64 0, .int .i64 0, .string ⟨#[]⟩, .int .i64 0, .int .i64 0, .int .i64 0, .string ⟨#[]⟩, .bool false, .slice none 0 0] 29) := KT
  have HB1 : Hid (Below w.heap.size w w1) := KB
  clear KX KR KT KB HX0 HR0 HT0 HB0
  have cX_0 := HX1.out.cell 0 rfl
  have cX_1 := HX1.out.cell 1 rfl
  have cX_2 := HX1.out.cell 2 rfl
  have cX_3 := HX1.out.cell 3 rfl
  have cX_4 := HX1.out.cell 4 rfl
  have cX_5 := HX1.out.cell 5 rfl
  have cX_6 := HX1.out.cell 6 rfl
  have cX_7 := HX1.out.cell 7 rfl
  have cX_8 := HX1.out.cell 8 rfl
  have cX_9 := HX1.out.cell 9 rfl
  have cX_10 := HX1.out.cell 10 rfl
  go_wp2_with fail
  clear cX_0 cX_1 cX_2 cX_3 cX_4 cX_5 cX_6 cX_7 cX_8 cX_9 cX_10
  refine (kD _).mono ?_
  rintro e w2 ⟨rfl, bb⟩
  have HX2 : Hid (Blk w2 w.heap.size [.int .i64 v, .int .i64 dh, .int .i64 dr, .int .i64 ds, .string di, .int .i64 mh, .int .i64 mr, .int .i64 ms, .string mi, .bool p, .slice a o.length cap] 50) := HX1.out.below bb HX1.out.lt
  have HR2 : Hid (Blk w2 (w.heap.size + 1) [.int .i64 0, .int .i64 0, .int .i64 0, .int .i64 0, .string ⟨#[]⟩, .int .i64 0, .int .i64 0, .int .i64 0, .string ⟨#[]⟩, .bool false, .slice none 0 0] 29) := HR1.out.below bb HR1.out.lt
  have HT2 : Hid (Blk w2 (w.heap.size + 2) [.int .i64 v, .int .i64 0, .int .i64 0, .int .i64 0, .string ⟨#[]⟩, .int .i64 0, .int .i64 0, .int .i64 0, .string ⟨#[]⟩, .bool false, .slice none 0 0] 29) := HT1.out.below bb HT1.out.lt
  have HB2 : Hid (Below w.heap.size w w2) := HB1.out.trans (bb.mono HB1.out.size)
  clear HX1 HR1 HT1 HB1
  clear bb
  have cT_0 := HT2.out.cell 0 rfl
  have cT_1 := HT2.out.cell 1 rfl
  have cT_2 := HT2.out.cell 2 rfl
  have cT_3 := HT2.out.cell 3 rfl
  have cT_4 := HT2.out.cell 4 rfl
  have cT_5 := HT2.out.cell 5 rfl
  have cT_6 := HT2.out.cell 6 rfl
  have cT_7 := HT2.out.cell 7 rfl
  have cT_8 := HT2.out.cell 8 rfl
  have cT_9 := HT2.out.cell 9 rfl
  have cT_10 := HT2.out.cell 10 rfl
  have zT := fun j => HT2.out.frozen j
  have KX := ((((HX2.out.other 1 (.int .i64 dh) (show w.heap.size ≠ (w.heap.size + 2) by omega)).other 2 (.int .i64 dr) (show w.heap.size ≠ (w.heap.size + 2) by omega)).other 3 (.int .i64 ds) (show w.heap.size ≠ (w.heap.size + 2) by omega)).other 4 (.string di) (show w.heap.size ≠ (w.heap.size + 2) by omega))
  have KR := ((((HR2.out.other 1 (.int .i64 dh) (show (w.heap.size + 1) ≠ (w.heap.size + 2) by omega)).other 2 (.int .i64 dr) (show (w.heap.size + 1) ≠ (w.heap.size + 2) by omega)).other 3 (.int .i64 ds) (show (w.heap.size + 1) ≠ (w.heap.size + 2) by omega)).other 4 (.string di) (show (w.heap.size + 1) ≠ (w.heap.size + 2) by omega))
  have KT := ((((HT2.out.set 1 (.int .i64 dh)).set 2 (.int .i64 dr)).set 3 (.int .i64 ds)).set 4 (.string di))
  have KB := ((((HB2.out.setCell (p := ⟨(w.heap.size + 2), 1, none⟩) (show w.heap.size ≤ (w.heap.size + 2) by omega) (.int .i64 dh)).setCell (p := ⟨(w.heap.size + 2), 2, none⟩) (show w.heap.size ≤ (w.heap.size + 2) by omega) (.int .i64 dr)).setCell (p := ⟨(w.heap.size + 2), 3, none⟩) (show w.heap.size ≤ (w.heap.size + 2) by omega) (.int .i64 ds)).setCell (p := ⟨(w.heap.size + 2), 4, none⟩) (show w.heap.size ≤ (w.heap.size + 2) by omega) (.string di))
  go_upto_region 4 with fail
  clear cT_0 cT_1 cT_2 cT_3 cT_4 cT_5 cT_6 cT_7 cT_8 cT_9 cT_10 zT
  generalize (((((w2.setCell _ _).setCell _ _).setCell _ _).setCell _ _) : World) = w3 at *
  have HX3 : Hid (Blk w3 w.heap.size [.int .i64 v, .int .i64 dh, .int .i64 dr, .int .i64 ds, .string di, .int .i64 mh, .int .i64 mr, .int .i64 ms, .string mi, .bool p, .slice a o.length cap] 50) := KX
  have HR3 : Hid (Blk w3 (w.heap.size + 1) [.int .i64 0, .int .i64 0, .int .i64 0, .int .i64 0, .string ⟨#[]⟩, .int .i64 0, .int .i64 0, .int .i64 0, .string ⟨#[]⟩, .bool false, .slice none 0 0] 29) := KR
  have HT3 : Hid (Blk w3 (w.heap.size + 2) [.int .i64 v, .int .i64 dh, .int .i64 dr, .int .i64 ds, .string di, .int .i64 0, .int .i64 0, .int .i64 0, .string ⟨#[]⟩, .bool false, .slice none 0 0] 29) := KT
  have HB3 : Hid (Below w.heap.size w w3) := KB
  clear KX KR KT KB HX2 HR2 HT2 HB2
  have cX_0 := HX3.out.cell 0 rfl
  have cX_1 := HX3.out.cell 1 rfl
  have cX_2 := HX3.out.cell 2 rfl
  have cX_3 := HX3.out.cell 3 rfl
  have cX_4 := HX3.out.cell 4 rfl
  have cX_5 := HX3.out.cell 5 rfl
  have cX_6 := HX3.out.cell 6 rfl
  have cX_7 := HX3.out.cell 7 rfl
  have cX_8 := HX3.out.cell 8 rfl
  have cX_9 := HX3.out.cell 9 rfl
  have cX_10 := HX3.out.cell 10 rfl
  go_wp2_with fail
  clear cX_0 cX_1 cX_2 cX_3 cX_4 cX_5 cX_6 cX_7 cX_8 cX_9 cX_10
  refine (kN _).mono ?_
  rintro e w4 ⟨rfl, bb⟩
  have HX4 : Hid (Blk w4 w.heap.size [.int .i64 v, .int .i64 dh, .int .i64 dr, .int .i64 ds, .string di, .int .i64 mh, .int .i64 mr, .int .i64 ms, .string mi, .bool p, .slice a o.length cap] 50) := HX3.out.below bb HX3.out.lt
  have HR4 : Hid (Blk w4 (w.heap.size + 1) [.int .i64 0, .int .i64 0, .int .i64 0, .int .i64 0, .string ⟨#[]⟩, .int .i64 0, .int .i64 0, .int .i64 0, .string ⟨#[]⟩, .bool false, .slice none 0 0] 29) := HR3.out.below bb HR3.out.lt
  have HT4 : Hid (Blk w4 (w.heap.size + 2) [.int .i64 v, .int .i64 dh, .int .i64 dr, .int .i64 ds, .string di, .int .i64 0, .int .i64 0, .int .i64 0, .string ⟨#[]⟩, .bool false, .slice none 0 0] 29) := HT3.out.below bb HT3.out.lt
  have HB4 : Hid (Below w.heap.size w w4) := HB3.out.trans (bb.mono HB3.out.size)
  clear HX3 HR3 HT3 HB3
  clear bb
  have cT_0 := HT4.out.cell 0 rfl
  have cT_1 := HT4.out.cell 1 rfl
  have cT_2 := HT4.out.cell 2 rfl
  have cT_3 := HT4.out.cell 3 rfl
  have cT_4 := HT4.out.cell 4 rfl
  have cT_5 := HT4.out.cell 5 rfl
  have cT_6 := HT4.out.cell 6 rfl
  have cT_7 := HT4.out.cell 7 rfl
  have cT_8 := HT4.out.cell 8 rfl
  have cT_9 := HT4.out.cell 9 rfl
  have cT_10 := HT4.out.cell 10 rfl
  have zT := fun j => HT4.out.frozen j
  have KX := ((((HX4.out.other 5 (.int .i64 mh) (show w.heap.size ≠ (w.heap.size + 2) by omega)).other 6 (.int .i64 mr) (show w.heap.size ≠ (w.heap.size + 2) by omega)).other 7 (.int .i64 ms) (show w.heap.size ≠ (w.heap.size + 2) by omega)).other 8 (.string mi) (show w.heap.size ≠ (w.heap.size + 2) by omega))
  have KR := ((((HR4.out.other 5 (.int .i64 mh) (show (w.heap.size + 1) ≠ (w.heap.size + 2) by omega)).other 6 (.int .i64 mr) (show (w.heap.size + 1) ≠ (w.heap.size + 2) by omega)).other 7 (.int .i64 ms) (show (w.heap.size + 1) ≠ (w.heap.size + 2) by omega)).other 8 (.string mi) (show (w.heap.size + 1) ≠ (w.heap.size + 2) by omega))
  have KT := ((((HT4.out.set 5 (.int .i64 mh)).set 6 (.int .i64 mr)).set 7 (.int .i64 ms)).set 8 (.string mi))
  have KB := ((((HB4.out.setCell (p := ⟨(w.heap.size + 2), 5, none⟩) (show w.heap.size ≤ (w.heap.size + 2) by omega) (.int .i64 mh)).setCell (p := ⟨(w.heap.size + 2), 6, none⟩) (show w.heap.size ≤ (w.heap.size + 2) by omega) (.int .i64 mr)).setCell (p := ⟨(w.heap.size + 2), 7, none⟩) (show w.heap.size ≤ (w.heap.size + 2) by omega) (.int .i64 ms)).setCell (p := ⟨(w.heap.size + 2), 8, none⟩) (show w.heap.size ≤ (w.heap.size + 2) by omega) (.string mi))
  go_upto_region 5 with fail
  clear cT_0 cT_1 cT_2 cT_3 cT_4 cT_5 cT_6 cT_7 cT_8 cT_9 cT_10 zT
  generalize (((((w4.setCell _ _).setCell _ _).setCell _ _).setCell _ _) : World) = w5 at *
  have HX5 : Hid (Blk w5 w.heap.size [.int .i64 v, .int .i64 dh, .int .i64 dr, .int .i64 ds, .string di, .int .i64 mh, .int .i64 mr, .int .i64 ms, .string mi, .bool p, .slice a o.length cap] 50) := KX
  have HR5 : Hid (Blk w5 (w.heap.size + 1) [.int .i64 0, .int .i64 0, .int .i64 0, .int .i64 0, .string ⟨#[]⟩, .int .i64 0, .int .i64 0, .int .i64 0, .string ⟨#[]⟩, .bool false, .slice none 0 0] 29) := KR
  have HT5 : Hid (Blk w5 (w.heap.size + 2) [.int .i64 v, .int .i64 dh, .int .i64 dr, .int .i64 ds, .string di, .int .i64 mh, .int .i64 mr, .int .i64 ms, .string mi, .bool false, .slice none 0 0] 29) := KT
  have HB5 : Hid (Below w.heap.size w w5) := KB
  clear KX KR KT KB HX4 HR4 HT4 HB4
  have cX_0 := HX5.out.cell 0 rfl
  have cX_1 := HX5.out.cell 1 rfl
  have cX_2 := HX5.out.cell 2 rfl
  have cX_3 := HX5.out.cell 3 rfl
  have cX_4 := HX5.out.cell 4 rfl
  have cX_5 := HX5.out.cell 5 rfl
  have cX_6 := HX5.out.cell 6 rfl
  have cX_7 := HX5.out.cell 7 rfl
  have cX_8 := HX5.out.cell 8 rfl
  have cX_9 := HX5.out.cell 9 rfl
  have cX_10 := HX5.out.cell 10 rfl
  have cT_0 := HT5.out.cell 0 rfl
  have cT_1 := HT5.out.cell 1 rfl
  have cT_2 := HT5.out.cell 2 rfl
  have cT_3 := HT5.out.cell 3 rfl
  have cT_4 := HT5.out.cell 4 rfl
  have cT_5 := HT5.out.cell 5 rfl
  have cT_6 := HT5.out.cell 6 rfl
  have cT_7 := HT5.out.cell 7 rfl
  have cT_8 := HT5.out.cell 8 rfl
  have cT_9 := HT5.out.cell 9 rfl
  have cT_10 := HT5.out.cell 10 rfl
  have zT := fun j => HT5.out.frozen j
  have KX := (HX5.out.other 9 (.bool p) (show w.heap.size ≠ (w.heap.size + 2) by omega))
  have KR := (HR5.out.other 9 (.bool p) (show (w.heap.size + 1) ≠ (w.heap.size + 2) by omega))
  have KT := (HT5.out.set 9 (.bool p))
  have KB := (HB5.out.setCell (p := ⟨(w.heap.size + 2), 9, none⟩) (show w.heap.size ≤ (w.heap.size + 2) by omega) (.bool p))
  go_upto_region 6 with fail
  clear cX_0 cX_1 cX_2 cX_3 cX_4 cX_5 cX_6 cX_7 cX_8 cX_9 cX_10 cT_0 cT_1 cT_2 cT_3 cT_4 cT_5 cT_6 cT_7 cT_8 cT_9 cT_10 zT
  generalize ((w5.setCell _ _) : World) = w6 at *
  have HX6 : Hid (Blk w6 w.heap.size [.int .i64 v, .int .i64 dh, .int .i64 dr, .int .i64 ds, .string di, .int .i64 mh, .int .i64 mr, .int .i64 ms, .string mi, .bool p, .slice a o.length cap] 50) := KX
  have HR6 : Hid (Blk w6 (w.heap.size + 1) [.int .i64 0, .int .i64 0, .int .i64 0, .int .i64 0, .string ⟨#[]⟩, .int .i64 0, .int .i64 0, .int .i64 0, .string ⟨#[]⟩, .bool false, .slice none 0 0] 29) := KR
  have HT6 : Hid (Blk w6 (w.heap.size + 2) [.int .i64 v, .int .i64 dh, .int .i64 dr, .int .i64 ds, .string di, .int .i64 mh, .int .i64 mr, .int .i64 ms, .string mi, .bool p, .slice none 0 0] 29) := KT
  have HB6 : Hid (Below w.heap.size w w6) := KB
  clear KX KR KT KB HX5 HR5 HT5 HB5
  have cX_0 := HX6.out.cell 0 rfl
  have cX_1 := HX6.out.cell 1 rfl
  have cX_2 := HX6.out.cell 2 rfl
  have cX_3 := HX6.out.cell 3 rfl
  have cX_4 := HX6.out.cell 4 rfl
  have cX_5 := HX6.out.cell 5 rfl
  have cX_6 := HX6.out.cell 6 rfl
  have cX_7 := HX6.out.cell 7 rfl
  have cX_8 := HX6.out.cell 8 rfl
  have cX_9 := HX6.out.cell 9 rfl
  have cX_10 := HX6.out.cell 10 rfl
  have hn1 : w.heap.size ≤ w6.heap.size := HB6.out.size
  have hn2 : w.heap.size + 2 < w6.heap.size := HT6.out.lt
  have hn3 : w.heap.size + 1 < w6.heap.size := HR6.out.lt
  go_wp2_with fail
  clear cX_0 cX_1 cX_2 cX_3 cX_4 cX_5 cX_6 cX_7 cX_8 cX_9 cX_10 kD kN
  refine (kO _ (HY.out.below HB6.out)).mono ?_
  rintro e w7 ⟨u, rfl, HU0, bb⟩
  have HX7 : Hid (Blk w7 w.heap.size [.int .i64 v, .int .i64 dh, .int .i64 dr, .int .i64 ds, .string di, .int .i64 mh, .int .i64 mr, .int .i64 ms, .string mi, .bool p, .slice a o.length cap] 50) := HX6.out.below bb HX6.out.lt
  have HR7 : Hid (Blk w7 (w.heap.size + 1) [.int .i64 0, .int .i64 0, .int .i64 0, .int .i64 0, .string ⟨#[]⟩, .int .i64 0, .int .i64 0, .int .i64 0, .string ⟨#[]⟩, .bool false, .slice none 0 0] 29) := HR6.out.below bb HR6.out.lt
  have HT7 : Hid (Blk w7 (w.heap.size + 2) [.int .i64 v, .int .i64 dh, .int .i64 dr, .int .i64 ds, .string di, .int .i64 mh, .int .i64 mr, .int .i64 ms, .string mi, .bool p, .slice none 0 0] 29) := HT6.out.below bb HT6.out.lt
  have HB7 : Hid (Below w.heap.size w w7) := HB6.out.trans (bb.mono HB6.out.size)
  clear HX6 HR6 HT6 HB6
  clear bb kO
  have cT_0 := HT7.out.cell 0 rfl
  have cT_1 := HT7.out.cell 1 rfl
  have cT_2 := HT7.out.cell 2 rfl
  have cT_3 := HT7.out.cell 3 rfl
  have cT_4 := HT7.out.cell 4 rfl
  have cT_5 := HT7.out.cell 5 rfl
  have cT_6 := HT7.out.cell 6 rfl
  have cT_7 := HT7.out.cell 7 rfl
  have cT_8 := HT7.out.cell 8 rfl
  have cT_9 := HT7.out.cell 9 rfl
  have cT_10 := HT7.out.cell 10 rfl
  have zT := fun j => HT7.out.frozen j
  have KX := (HX7.out.other 10 (.slice u o.length o.length) (show w.heap.size ≠ (w.heap.size + 2) by omega))
  have KR := (HR7.out.other 10 (.slice u o.length o.length) (show (w.heap.size + 1) ≠ (w.heap.size + 2) by omega))
  have KT := (HT7.out.set 10 (.slice u o.length o.length))
  have KB := (HB7.out.setCell (p := ⟨(w.heap.size + 2), 10, none⟩) (show w.heap.size ≤ (w.heap.size + 2) by omega) (.slice u o.length o.length))
  have KG : w7.grownBy (w7.setCell ⟨(w.heap.size + 2), 10, none⟩ (.slice u o.length o.length)) (some (w.heap.size + 2)) := grown_set (grown_refl _ _) _
  have KU : Yop (w7.setCell ⟨(w.heap.size + 2), 10, none⟩ (.slice u o.length o.length)) w6.heap.size o u := HU0.out.still KG (fun j e => by injection e with e; omega)
  go_upto_region 7 with fail
  clear cT_0 cT_1 cT_2 cT_3 cT_4 cT_5 cT_6 cT_7 cT_8 cT_9 cT_10 zT
  generalize ((w7.setCell _ _) : World) = w8 at *
  have HX8 : Hid (Blk w8 w.heap.size [.int .i64 v, .int .i64 dh, .int .i64 dr, .int .i64 ds, .string di, .int .i64 mh, .int .i64 mr, .int .i64 ms, .string mi, .bool p, .slice a o.length cap] 50) := KX
  have HR8 : Hid (Blk w8 (w.heap.size + 1) [.int .i64 0, .int .i64 0, .int .i64 0, .int .i64 0, .string ⟨#[]⟩, .int .i64 0, .int .i64 0, .int .i64 0, .string ⟨#[]⟩, .bool false, .slice none 0 0] 29) := KR
  have HT8 : Hid (Blk w8 (w.heap.size + 2) [.int .i64 v, .int .i64 dh, .int .i64 dr, .int .i64 ds, .string di, .int .i64 mh, .int .i64 mr, .int .i64 ms, .string mi, .bool p, .slice u o.length o.length] 29) := KT
  have HU8 : Hid (Yop w8 w6.heap.size o u) := KU
  have HB8 : Hid (Below w.heap.size w w8) := KB
  clear KX KR KT KB KG KU HX7 HR7 HT7 HB7 HU0
  have cR_0 := HR8.out.cell 0 rfl
  have cR_1 := HR8.out.cell 1 rfl
  have cR_2 := HR8.out.cell 2 rfl
  have cR_3 := HR8.out.cell 3 rfl
  have cR_4 := HR8.out.cell 4 rfl
  have cR_5 := HR8.out.cell 5 rfl
  have cR_6 := HR8.out.cell 6 rfl
  have cR_7 := HR8.out.cell 7 rfl
  have cR_8 := HR8.out.cell 8 rfl
  have cR_9 := HR8.out.cell 9 rfl
  have cR_10 := HR8.out.cell 10 rfl
  have cT_0 := HT8.out.cell 0 rfl
  have cT_1 := HT8.out.cell 1 rfl
  have cT_2 := HT8.out.cell 2 rfl
  have cT_3 := HT8.out.cell 3 rfl
  have cT_4 := HT8.out.cell 4 rfl
  have cT_5 := HT8.out.cell 5 rfl
  have cT_6 := HT8.out.cell 6 rfl
  have cT_7 := HT8.out.cell 7 rfl
  have cT_8 := HT8.out.cell 8 rfl
  have cT_9 := HT8.out.cell 9 rfl
  have cT_10 := HT8.out.cell 10 rfl
  have zR := fun j => HR8.out.frozen j
  have KX := (((((((((((HX8.out.other 0 (.int .i64 v) (show w.heap.size ≠ (w.heap.size + 1) by omega)).other 1 (.int .i64 dh) (show w.heap.size ≠ (w.heap.size + 1) by omega)).other 2 (.int .i64 dr) (show w.heap.size ≠ (w.heap.size + 1) by omega)).other 3 (.int .i64 ds) (show w.heap.size ≠ (w.heap.size + 1) by omega)).other 4 (.string di) (show w.heap.size ≠ (w.heap.size + 1) by omega)).other 5 (.int .i64 mh) (show w.heap.size ≠ (w.heap.size + 1) by omega)).other 6 (.int .i64 mr) (show w.heap.size ≠ (w.heap.size + 1) by omega)).other 7 (.int .i64 ms) (show w.heap.size ≠ (w.heap.size + 1) by omega)).other 8 (.string mi) (show w.heap.size ≠ (w.heap.size + 1) by omega)).other 9 (.bool p) (show w.heap.size ≠ (w.heap.size + 1) by omega)).other 10 (.slice u o.length o.length) (show w.heap.size ≠ (w.heap.size + 1) by omega))
  have KR := (((((((((((HR8.out.set 0 (.int .i64 v)).set 1 (.int .i64 dh)).set 2 (.int .i64 dr)).set 3 (.int .i64 ds)).set 4 (.string di)).set 5 (.int .i64 mh)).set 6 (.int .i64 mr)).set 7 (.int .i64 ms)).set 8 (.string mi)).set 9 (.bool p)).set 10 (.slice u o.length o.length))
  have KT := (((((((((((HT8.out.other 0 (.int .i64 v) (show (w.heap.size + 2) ≠ (w.heap.size + 1) by omega)).other 1 (.int .i64 dh) (show (w.heap.size + 2) ≠ (w.heap.size + 1) by omega)).other 2 (.int .i64 dr) (show (w.heap.size + 2) ≠ (w.heap.size + 1) by omega)).other 3 (.int .i64 ds) (show (w.heap.size + 2) ≠ (w.heap.size + 1) by omega)).other 4 (.string di) (show (w.heap.size + 2) ≠ (w.heap.size + 1) by omega)).other 5 (.int .i64 mh) (show (w.heap.size + 2) ≠ (w.heap.size + 1) by omega)).other 6 (.int .i64 mr) (show (w.heap.size + 2) ≠ (w.heap.size + 1) by omega)).other 7 (.int .i64 ms) (show (w.heap.size + 2) ≠ (w.heap.size + 1) by omega)).other 8 (.string mi) (show (w.heap.size + 2) ≠ (w.heap.size + 1) by omega)).other 9 (.bool p) (show (w.heap.size + 2) ≠ (w.heap.size + 1) by omega)).other 10 (.slice u o.length o.length) (show (w.heap.size + 2) ≠ (w.heap.size + 1) by omega))
  have KB := (((((((((((HB8.out.setCell (p := ⟨(w.heap.size + 1), 0, none⟩) (show w.heap.size ≤ (w.heap.size + 1) by omega) (.int .i64 v)).setCell (p := ⟨(w.heap.size + 1), 1, none⟩) (show w.heap.size ≤ (w.heap.size + 1) by omega) (.int .i64 dh)).setCell (p := ⟨(w.heap.size + 1), 2, none⟩) (show w.heap.size ≤ (w.heap.size + 1) by omega) (.int .i64 dr)).setCell (p := ⟨(w.heap.size + 1), 3, none⟩) (show w.heap.size ≤ (w.heap.size + 1) by omega) (.int .i64 ds)).setCell (p := ⟨(w.heap.size + 1), 4, none⟩) (show w.heap.size ≤ (w.heap.size + 1) by omega) (.string di)).setCell (p := ⟨(w.heap.size + 1), 5, none⟩) (show w.heap.size ≤ (w.heap.size + 1) by omega) (.int .i64 mh)).setCell (p := ⟨(w.heap.size + 1), 6, none⟩) (show w.heap.size ≤ (w.heap.size + 1) by omega) (.int .i64 mr)).setCell (p := ⟨(w.heap.size + 1), 7, none⟩) (show w.heap.size ≤ (w.heap.size + 1) by omega) (.int .i64 ms)).setCell (p := ⟨(w.heap.size + 1), 8, none⟩) (show w.heap.size ≤ (w.heap.size + 1) by omega) (.string mi)).setCell (p := ⟨(w.heap.size + 1), 9, none⟩) (show w.heap.size ≤ (w.heap.size + 1) by omega) (.bool p)).setCell (p := ⟨(w.heap.size + 1), 10, none⟩) (show w.heap.size ≤ (w.heap.size + 1) by omega) (.slice u o.length o.length))
  have KG : w8.grownBy (((((((((((w8.setCell ⟨(w.heap.size + 1), 0, none⟩ (.int .i64 v)).setCell ⟨(w.heap.size + 1), 1, none⟩ (.int .i64 dh)).setCell ⟨(w.heap.size + 1), 2, none⟩ (.int .i64 dr)).setCell ⟨(w.heap.size + 1), 3, none⟩ (.int .i64 ds)).setCell ⟨(w.heap.size + 1), 4, none⟩ (.string di)).setCell ⟨(w.heap.size + 1), 5, none⟩ (.int .i64 mh)).setCell ⟨(w.heap.size + 1), 6, none⟩ (.int .i64 mr)).setCell ⟨(w.heap.size + 1), 7, none⟩ (.int .i64 ms)).setCell ⟨(w.heap.size + 1), 8, none⟩ (.string mi)).setCell ⟨(w.heap.size + 1), 9, none⟩ (.bool p)).setCell ⟨(w.heap.size + 1), 10, none⟩ (.slice u o.length o.length)) (some (w.heap.size + 1)) := grown_set (grown_set (grown_set (grown_set (grown_set (grown_set (grown_set (grown_set (grown_set (grown_set (grown_set (grown_refl _ _) _) _) _) _) _) _) _) _) _) _) _
  have KU : Yop (((((((((((w8.setCell ⟨(w.heap.size + 1), 0, none⟩ (.int .i64 v)).setCell ⟨(w.heap.size + 1), 1, none⟩ (.int .i64 dh)).setCell ⟨(w.heap.size + 1), 2, none⟩ (.int .i64 dr)).setCell ⟨(w.heap.size + 1), 3, none⟩ (.int .i64 ds)).setCell ⟨(w.heap.size + 1), 4, none⟩ (.string di)).setCell ⟨(w.heap.size + 1), 5, none⟩ (.int .i64 mh)).setCell ⟨(w.heap.size + 1), 6, none⟩ (.int .i64 mr)).setCell ⟨(w.heap.size + 1), 7, none⟩ (.int .i64 ms)).setCell ⟨(w.heap.size + 1), 8, none⟩ (.string mi)).setCell ⟨(w.heap.size + 1), 9, none⟩ (.bool p)).setCell ⟨(w.heap.size + 1), 10, none⟩ (.slice u o.length o.length)) w6.heap.size o u := HU8.out.still KG (fun j e => by injection e with e; omega)
  go_wp2_with fail
  clear cR_0 cR_1 cR_2 cR_3 cR_4 cR_5 cR_6 cR_7 cR_8 cR_9 cR_10 cT_0 cT_1 cT_2 cT_3 cT_4 cT_5 cT_6 cT_7 cT_8 cT_9 cT_10 zR
  generalize ((((((((((((w8.setCell _ _).setCell _ _).setCell _ _).setCell _ _).setCell _ _).setCell _ _).setCell _ _).setCell _ _).setCell _ _).setCell _ _).setCell _ _) : World) = w9 at *
  have HX9 : Hid (Blk w9 w.heap.size [.int .i64 v, .int .i64 dh, .int .i64 dr, .int .i64 ds, .string di, .int .i64 mh, .int .i64 mr, .int .i64 ms, .string mi, .bool p, .slice a o.length cap] 50) := KX
  have HR9 : Hid (Blk w9 (w.heap.size + 1) [.int .i64 v, .int .i64 dh, .int .i64 dr, .int .i64 ds, .string di, .int .i64 mh, .int .i64 mr, .int .i64 ms, .string mi, .bool p, .slice u o.length o.length] 29) := KR
  have HT9 : Hid (Blk w9 (w.heap.size + 2) [.int .i64 v, .int .i64 dh, .int .i64 dr, .int .i64 ds, .string di, .int .i64 mh, .int .i64 mr, .int .i64 ms, .string mi, .bool p, .slice u o.length o.length] 29) := KT
  have HU9 : Hid (Yop w9 w6.heap.size o u) := KU
  have HB9 : Hid (Below w.heap.size w w9) := KB
  clear KX KR KT KB KG KU HX8 HR8 HT8 HB8 HU8
  have y0 := HR9.out.cell 0 rfl
  have y1 := HR9.out.cell 1 rfl
  have y2 := HR9.out.cell 2 rfl
  have y3 := HR9.out.cell 3 rfl
  have y4 := HR9.out.cell 4 rfl
  have y5 := HR9.out.cell 5 rfl
  have y6 := HR9.out.cell 6 rfl
  have y7 := HR9.out.cell 7 rfl
  have y8 := HR9.out.cell 8 rfl
  have y9 := HR9.out.cell 9 rfl
  have y10 := HR9.out.cell 10 rfl
  refine bodyPost_ret (v := .agg #[.int .i64 v, .int .i64 dh, .int .i64 dr, .int .i64 ds, .string di, .int .i64 mh, .int .i64 mr, .int .i64 ms, .string mi, .bool p, .slice u o.length o.length]) (by simp [results, Try.results28, go_sem, y0, y1, y2, y3, y4, y5, y6, y7, y8, y9, y10]) rfl ⟨u, rfl, HU9.out.less (by assumption), HB9.out⟩
set_option maxHeartbeats 1600000 in
set_option maxRecDepth 100000 in
theorem eq_sg (x : Sg) (a a' : Option Addr) (cap cap' : Nat) (w : World) (hl : YO w a x.o) (hl' : YO w a' x.o) (h1 : x.o.length ≤ 1099511627776) :
    Calls Try.prog 30 #[sV x a cap, sV x a' cap'] w fun e w' => e = .returned (.bool true) ∧ Below w.heap.size w w' := by
  have kD := fun W => eq_gd x.d W
  have kN := fun W => eq_gd x.m W
  have kO := fun W (h : YO W a x.o) (h' : YO W a' x.o) => eqs_y a a' x.o cap cap' W h h' h1
  obtain ⟨v, ⟨dh, dr, ds, di⟩, ⟨mh, mr, ms, mi⟩, p, o⟩ := x
  unfold sV sQ
  unfold gV at kD kN
  simp only at *
  have hbp : (p == p) = true := by simp
  have hbp' : (p != p) = false := by simp
  have hX := blk_new w [.int .i64 v, .int .i64 dh, .int .i64 dr, .int .i64 ds, .string di, .int .i64 mh, .int .i64 mr, .int .i64 ms, .string mi, .bool p, .slice a o.length cap] 29
  have hX' : Blk ((w.alloc (.cells [.int .i64 v, .int .i64 dh, .int .i64 dr, .int .i64 ds, .string di, .int .i64 mh, .int .i64 mr, .int .i64 ms, .string mi, .bool p, .slice a o.length cap].toArray 29)).alloc (.cells [.int .i64 v, .int .i64 dh, .int .i64 dr, .int .i64 ds, .string di, .int .i64 mh, .int .i64 mr, .int .i64 ms, .string mi, .bool p, .slice a' o.length cap'].toArray 29)) w.heap.size [.int .i64 v, .int .i64 dh, .int .i64 dr, .int .i64 ds, .string di, .int .i64 mh, .int .i64 mr, .int .i64 ms, .string mi, .bool p, .slice a o.length cap] 29 := hX.alloc _
  have hZ := blk_new (w.alloc (.cells [.int .i64 v, .int .i64 dh, .int .i64 dr, .int .i64 ds, .string di, .int .i64 mh, .int .i64 mr, .int .i64 ms, .string mi, .bool p, .slice a o.length cap].toArray 29)) [.int .i64 v, .int .i64 dh, .int .i64 dr, .int .i64 ds, .string di, .int .i64 mh, .int .i64 mr, .int .i64 ms, .string mi, .bool p, .slice a' o.length cap'] 29
  have hsz : (w.alloc (.cells [.int .i64 v, .int .i64 dh, .int .i64 dr, .int .i64 ds, .string di, .int .i64 mh, .int .i64 mr, .int .i64 ms, .string mi, .bool p, .slice a o.length cap].toArray 29)).heap.size = w.heap.size + 1 := by simp
  rw [hsz] at hZ
  have HX : Hid (Blk ((w.alloc (.cells #[.int .i64 v, .int .i64 dh, .int .i64 dr, .int .i64 ds, .string di, .int .i64 mh, .int .i64 mr, .int .i64 ms, .string mi, .bool p, .slice a o.length cap] 29)).alloc (.cells #[.int .i64 v, .int .i64 dh, .int .i64 dr, .int .i64 ds, .string di, .int .i64 mh, .int .i64 mr, .int .i64 ms, .string mi, .bool p, .slice a' o.length cap'] 29)) w.heap.size [.int .i64 v, .int .i64 dh, .int .i64 dr, .int .i64 ds, .string di, .int .i64 mh, .int .i64 mr, .int .i64 ms, .string mi, .bool p, .slice a o.length cap] 29) := hX'
  have HZ : Hid (Blk ((w.alloc (.cells #[.int .i64 v, .int .i64 dh, .int .i64 dr, .int .i64 ds, .string di, .int .i64 mh, .int .i64 mr, .int .i64 ms, .string mi, .bool p, .slice a o.length cap] 29)).alloc (.cells #[.int .i64 v, .int .i64 dh, .int .i64 dr, .int .i64 ds, .string di, .int .i64 mh, .int .i64 mr, .int .i64 ms, .string mi, .bool p, .slice a' o.length cap'] 29)) (w.heap.size + 1) [.int .i64 v, .int .i64 dh, .int .i64 dr, .int .i64 ds, .string di, .int .i64 mh, .int .i64 mr, .int .i64 ms, .string mi, .bool p, .slice a' o.length cap'] 29) := hZ
  have HY : Hid (YO ((w.alloc (.cells #[.int .i64 v, .int .i64 dh, .int .i64 dr, .int .i64 ds, .string di, .int .i64 mh, .int .i64 mr, .int .i64 ms, .string mi, .bool p, .slice a o.length cap] 29)).alloc (.cells #[.int .i64 v, .int .i64 dh, .int .i64 dr, .int .i64 ds, .string di, .int .i64 mh, .int .i64 mr, .int .i64 ms, .string mi, .bool p, .slice a' o.length cap'] 29)) a o) := hl.below (below_two _ _ _)
  have HY' : Hid (YO ((w.alloc (.cells #[.int .i64 v, .int .i64 dh, .int .i64 dr, .int .i64 ds, .string di, .int .i64 mh, .int .i64 mr, .int .i64 ms, .string mi, .bool p, .slice a o.length cap] 29)).alloc (.cells #[.int .i64 v, .int .i64 dh, .int .i64 dr, .int .i64 ds, .string di, .int .i64 mh, .int .i64 mr, .int .i64 ms, .string mi, .bool p, .slice a' o.length cap'] 29)) a' o) := hl'.below (below_two _ _ _)
  have HB : Hid (Below w.heap.size w ((w.alloc (.cells #[.int .i64 v, .int .i64 dh, .int .i64 dr, .int .i64 ds, .string di, .int .i64 mh, .int .i64 mr, .int .i64 ms, .string mi, .bool p, .slice a o.length cap] 29)).alloc (.cells #[.int .i64 v, .int .i64 dh, .int .i64 dr, .int .i64 ds, .string di, .int .i64 mh, .int .i64 mr, .int .i64 ms, .string mi, .bool p, .slice a' o.length cap'] 29))) := below_two _ _ _
  clear hX hX' hZ hl hl' hsz
  go_enter Try.func30, Try.ntmps30
  go_wp2_with fail
  generalize (w.alloc (.cells #[.int .i64 v, .int .i64 dh, .int .i64 dr, .int .i64 ds, .string di, .int .i64 mh, .int .i64 mr, .int .i64 ms, .string mi, .bool p, .slice a o.length cap] 29)).alloc (.cells #[.int .i64 v, .int .i64 dh, .int .i64 dr, .int .i64 ds, .string di, .int .i64 mh, .int .i64 mr, .int .i64 ms, .string mi, .bool p, .slice a' o.length cap'] 29) = w1 at *
  refine (kD _).mono ?_
  rintro e w2 ⟨rfl, b2⟩
  have HB2 : Hid (Below w.heap.size w w2) := HB.out.trans (b2.mono HB.out.size)
  have HY2 : Hid (YO w2 a o) := HY.out.below b2
  have HV2 : Hid (YO w2 a' o) := HY'.out.below b2
  have HX2 : Hid (Blk w2 w.heap.size [.int .i64 v, .int .i64 dh, .int .i64 dr, .int .i64 ds, .string di, .int .i64 mh, .int .i64 mr, .int .i64 ms, .string mi, .bool p, .slice a o.length cap] 29) := HX.out.below b2 HX.out.lt
  have HZ2 : Hid (Blk w2 (w.heap.size + 1) [.int .i64 v, .int .i64 dh, .int .i64 dr, .int .i64 ds, .string di, .int .i64 mh, .int .i64 mr, .int .i64 ms, .string mi, .bool p, .slice a' o.length cap'] 29) := HZ.out.below b2 HZ.out.lt
  clear b2 HB HY HY' HX HZ kD
  have x5 := HX2.out.cell 5 rfl
  have z5 := HZ2.out.cell 5 rfl
  have x6 := HX2.out.cell 6 rfl
  have z6 := HZ2.out.cell 6 rfl
  have x7 := HX2.out.cell 7 rfl
  have z7 := HZ2.out.cell 7 rfl
  have x8 := HX2.out.cell 8 rfl
  have z8 := HZ2.out.cell 8 rfl
  go_wp2_with fail
  refine (kN _).mono ?_
  rintro e w3 ⟨rfl, b3⟩
  have HB3 : Hid (Below w.heap.size w w3) := HB2.out.trans (b3.mono HB2.out.size)
  have HY3 : Hid (YO w3 a o) := HY2.out.below b3
  have HV3 : Hid (YO w3 a' o) := HV2.out.below b3
  have HX3 : Hid (Blk w3 w.heap.size [.int .i64 v, .int .i64 dh, .int .i64 dr, .int .i64 ds, .string di, .int .i64 mh, .int .i64 mr, .int .i64 ms, .string mi, .bool p, .slice a o.length cap] 29) := HX2.out.below b3 HX2.out.lt
  have HZ3 : Hid (Blk w3 (w.heap.size + 1) [.int .i64 v, .int .i64 dh, .int .i64 dr, .int .i64 ds, .string di, .int .i64 mh, .int .i64 mr, .int .i64 ms, .string mi, .bool p, .slice a' o.length cap'] 29) := HZ2.out.below b3 HZ2.out.lt
  clear b3 HB2 HY2 HV2 HX2 HZ2 kN x5 z5 x6 z6 x7 z7 x8 z8
  have x9 := HX3.out.cell 9 rfl
  have z9 := HZ3.out.cell 9 rfl
  have x10 := HX3.out.cell 10 rfl
  have z10 := HZ3.out.cell 10 rfl
  go_wp2_with fail
  refine (kO _ HY3.out HV3.out).mono ?_
  rintro e w4 ⟨rfl, b4⟩
  have HB4 : Hid (Below w.heap.size w w4) := HB3.out.trans (b4.mono HB3.out.size)
  clear b4
  go_wp2
  go_ret
  exact ⟨rfl, HB4.out⟩
end Go.Proofs.Ytmjlpdmdpagggaa
