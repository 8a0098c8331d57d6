/- What swapRangeCmpFunc and rotateCmpFunc do to a row of validators. Conditions: rows that a machine can hold. -/
import Derived.Test.YtaeokecodejpdaaSo1
import Derived.Test.YtaeokecodejpdaaMs
import Derived.Test.YtaeokecodejpdaaMh
import Derived.BigRegion
namespace Go.Proofs.Ytaeokecodejpdaa
open Go.RowKit
open Num
set_option linter.unusedVariables false
/-- The world behind w0: but for block b all stands; there these validators lie; the comparison's variable stands. -/
structure SS (w0 : World) (b c : Nat) (l : List V) (W : World) : Prop where
  gr : w0.grownBy W (some b)
  at' : VAt W b 0 l
  room : Room W b 0 (l.length * 2)
  cf : CF W c
  ne : c ≠ b
theorem SS.below {w0 W W' : World} {b c : Nat} {l : List V} (h : SS w0 b c l W) (hb : Below W.heap.size W W') : SS w0 b c l W' :=
  ⟨gr_trans h.gr ⟨hb.os, hb.tape, hb.output, hb.size, fun k hk _ => hb.block k hk⟩, h.at'.below hb, h.room.below hb, h.cf.below hb, h.ne⟩
theorem vAt_set {W : World} {b : Nat} {l : List V} {i : Nat} {v : V} (h : VAt W b 0 l) (hi : i < l.length) : VAt ((W.setCell ⟨b, i * 2, none⟩ (.int .i64 v.i)).setCell ⟨b, i * 2 + 1, none⟩ (.int .i64 v.p)) b 0 (l.set i v) := fun j hj => by
  rw [List.length_set] at hj
  obtain ⟨h1, h2⟩ := h j hj
  obtain ⟨g1, g2⟩ := h i hi
  rw [Nat.zero_add] at h1 h2 g1 g2 ⊢
  by_cases e : i = j
  · subst e
    rw [World.cell?_setCell_other _ ⟨b, i * 2 + 1, none⟩ ⟨b, i * 2, none⟩ _ (fun e => by injection e; omega), World.cell?_setCell_same' _ _ _ (by rw [g1]; rfl), World.cell?_setCell_same' _ _ _ (by rw [World.cell?_setCell_other _ ⟨b, i * 2, none⟩ ⟨b, i * 2 + 1, none⟩ _ (fun e => by injection e; omega), g2]; rfl)]
    simp
  · rw [World.cell?_setCell_other _ ⟨b, i * 2 + 1, none⟩ ⟨b, j * 2, none⟩ _ (fun e => by injection e; omega), World.cell?_setCell_other _ ⟨b, i * 2, none⟩ ⟨b, j * 2, none⟩ _ (fun e => by injection e; omega),
      World.cell?_setCell_other _ ⟨b, i * 2 + 1, none⟩ ⟨b, j * 2 + 1, none⟩ _ (fun e => by injection e; omega), World.cell?_setCell_other _ ⟨b, i * 2, none⟩ ⟨b, j * 2 + 1, none⟩ _ (fun e => by injection e; omega), h1, h2]
    simp [e]
theorem SS.set {w0 W : World} {b c : Nat} {l : List V} {i : Nat} {v : V} (h : SS w0 b c l W) (hi : i < l.length) : SS w0 b c (l.set i v) ((W.setCell ⟨b, i * 2, none⟩ (.int .i64 v.i)).setCell ⟨b, i * 2 + 1, none⟩ (.int .i64 v.p)) :=
  ⟨gr_trans h.gr (gr_trans (gr_set _ _ _ _) (gr_set _ _ _ _)), vAt_set h.at' hi, by rw [List.length_set]; exact (h.room.set _ _ _).set _ _ _,
    by unfold CF; rw [World.cell?_setCell_other _ ⟨b, i * 2 + 1, none⟩ ⟨c, 0, none⟩ _ (fun e => by injection e with e1; exact h.ne e1.symm), World.cell?_setCell_other _ ⟨b, i * 2, none⟩ ⟨c, 0, none⟩ _ (fun e => by injection e with e1; exact h.ne e1.symm)]; exact h.cf, h.ne⟩
theorem SS.drew {w0 W : World} {b c : Nat} {l : List V} (h : SS w0 b c l W) : SS w0 b c l W.drew := h.below ((Below.refl _ _).drew)
theorem SS.cells {w0 W : World} {b c : Nat} {l : List V} {i : Nat} (h : SS w0 b c l W) (hi : i < l.length) :
    W.cell? ⟨b, i * 2, none⟩ = some (.int .i64 (el l i).i) ∧ W.cell? ⟨b, i * 2 + 1, none⟩ = some (.int .i64 (el l i).p) ∧ W.frozen? ⟨b, i * 2, none⟩ = false ∧ W.frozen? ⟨b, i * 2 + 1, none⟩ = false := by
  obtain ⟨p1, p2⟩ := h.at' i hi
  have f1 := (h.room (i * 2) (by omega)).2
  have f2 := (h.room (i * 2 + 1) (by omega)).2
  rw [Nat.zero_add] at p1 p2 f1 f2
  rw [el_at hi]
  exact ⟨p1, p2, f1, f2⟩
/-- Two exchanged, as the stores come. -/
theorem SS.exch {w0 W : World} {b c : Nat} {l : List V} {i j : Nat} {p q : V} (h : SS w0 b c l W) (hi : i < l.length) (hj : j < l.length) (hp : el l i = p) (hq : el l j = q) :
    SS w0 b c (xch l i j) ((((W.setCell ⟨b, i * 2, none⟩ (.int .i64 q.i)).setCell ⟨b, i * 2 + 1, none⟩ (.int .i64 q.p)).setCell ⟨b, j * 2, none⟩ (.int .i64 p.i)).setCell ⟨b, j * 2 + 1, none⟩ (.int .i64 p.p)).drew := by
  unfold xch
  rw [hp, hq]
  exact ((h.set hi).set (by rw [List.length_set]; exact hj)).drew
/-- The comparison, as a value. -/
abbrev lessOf (c : Nat) : Value := .func (.func 24) #[] #[.pointer (some ⟨c, 0, none⟩)]
set_option maxHeartbeats 1600000 in
theorem swr_any (b c a m n cap : Nat) (l : List V) (w0 w : World) (h : SS w0 b c l w) (h1 : a + n ≤ m) (h2 : m + n ≤ l.length) (hl : l.length ≤ 2097152) :
    Calls Try.prog 32 #[.slice (some ⟨b, 0, none⟩) l.length cap, .int .i64 (a : Int), .int .i64 (m : Int), .int .i64 (n : Int), lessOf c] w fun e w' => e = .returned (.tuple #[]) ∧ SS w0 b c (swr l a m n) w' := by
  have HS0 : Hid (SS w0 b c l w) := h
  clear h
  go_enter Try.func32, Try.ntmps32
  go_wp2
  go_loopw [10] (fun iv wr => ∃ k : Nat, k ≤ n ∧ iv = .int .i64 k ∧ Hid (SS w0 b c (swr l a m k) wr)) (fun iv _ => n - (intOf iv).toNat)
  case atStart => exact ⟨0, Nat.zero_le _, rfl, by show SS _ _ _ _ _; rw [swr_zero (by omega)]; exact HS0.out⟩
  case round =>
    clear HS0
    obtain ⟨k, hk, rfl, HS⟩ := hrel
    by_cases hlt : k < n
    · have hltz : (k : Int) < (n : Int) := by omega
      have HN : Hid (xch (swr l a m k) (a + k) (m + k) = swr l a m (k + 1)) := swr_succ (by omega) (by omega)
      have hlen := swr_length (l := l) (a := a) (m := m) (n := k) (by omega) (by omega)
      have hA : a + k < (swr l a m k).length := by omega
      have hM : m + k < (swr l a m k).length := by omega
      obtain ⟨p1, p2, f1, f2⟩ := HS.out.cells hA
      obtain ⟨q1, q2, f3, f4⟩ := HS.out.cells hM
      obtain ⟨p, hp⟩ : ∃ p, el (swr l a m k) (a + k) = p := ⟨_, rfl⟩
      obtain ⟨q, hq⟩ : ∃ p, el (swr l a m k) (m + k) = p := ⟨_, rfl⟩
      rw [hp] at p1 p2
      rw [hq] at q1 q2
      obtain ⟨i, hi⟩ : ∃ i, a + k = i := ⟨_, rfl⟩
      obtain ⟨j, hj⟩ : ∃ j, m + k = j := ⟨_, rfl⟩
      have hiz : (a : Int) + (k : Int) = (i : Int) := by omega
      have hjz : (m : Int) + (k : Int) = (j : Int) := by omega
      have hwi : IntKind.i64.wrap ((a : Int) + (k : Int)) = (i : Int) := by rw [IntKind.wrap_i64]; omega
      have hwj : IntKind.i64.wrap ((m : Int) + (k : Int)) = (j : Int) := by rw [IntKind.wrap_i64]; omega
      rw [hi] at p1 p2 f1 f2
      rw [hj] at q1 q2 f3 f4
      have hil : (i : Int) < (l.length : Int) := by omega
      have hjl : (j : Int) < (l.length : Int) := by omega
      have hij : i ≠ j := by omega
      have HE : Hid (el (swr l a m k) i = p ∧ el (swr l a m k) j = q ∧ a + k = i ∧ m + k = j) := ⟨by rw [← hi]; exact hp, by rw [← hj]; exact hq, hi, hj⟩
      clear hp hq hi hj hlen hA hM hiz hjz
      go_wp2_with fail
      go_region
      have HS2 : Hid (SS w0 b c (swr l a m (k + 1)) ((((wr.setCell ⟨b, i * 2, none⟩ (.int .i64 q.i)).setCell ⟨b, i * 2 + 1, none⟩ (.int .i64 q.p)).setCell ⟨b, j * 2, none⟩ (.int .i64 p.i)).setCell ⟨b, j * 2 + 1, none⟩ (.int .i64 p.p)).drew) := by
        obtain ⟨e1, e2, e3, e4⟩ := HE.out
        have := HS.out.exch (i := i) (j := j) (by rw [swr_length (by omega) (by omega)]; omega) (by rw [swr_length (by omega) (by omega)]; omega) e1 e2
        rw [← e3, ← e4] at this ⊢
        rw [HN.out] at this
        exact this
      clear p1 p2 q1 q2 f1 f2 f3 f4
      go_wp2
      go_roundw
      case rel => exact ⟨k + 1, by omega, by go_num, HS2⟩
      case measure => simp [intOf]; omega
    · have hltz : ¬ (k : Int) < (n : Int) := by omega
      have hkn : k = n := by omega
      subst hkn
      go_wp2
      go_end0
      exact ⟨rfl, HS.out⟩
set_option maxHeartbeats 1600000 in
theorem rot_any (b c a m e cap : Nat) (x u v y : List V) (w0 w : World) (h : SS w0 b c (x ++ u ++ v ++ y) w) (h1 : x.length = a) (h2 : a + u.length = m) (h3 : m + v.length = e) (hu : 0 < u.length) (hv : 0 < v.length) (hl : (x ++ u ++ v ++ y).length ≤ 2097152) (L : Nat) (hL : (x ++ u ++ v ++ y).length = L) :
    Calls Try.prog 31 #[.slice (some ⟨b, 0, none⟩) L cap, .int .i64 (a : Int), .int .i64 (m : Int), .int .i64 (e : Int), lessOf c] w fun r w' => r = .returned (.tuple #[]) ∧ SS w0 b c (x ++ v ++ u ++ y) w' := by
  have HS0 : Hid (SS w0 b c (x ++ u ++ v ++ y) w) := h
  have hle : x.length + u.length + v.length + y.length = L := by rw [← hL]; simp; omega
  have hl2 : L ≤ 2097152 := by omega
  have HT : Hid (∃ T, x ++ v ++ u ++ y = T) := ⟨_, rfl⟩
  obtain ⟨T, hT⟩ := HT.out
  rw [hT]
  have HT : Hid (x ++ v ++ u ++ y = T) := hT
  obtain ⟨n1, hn1⟩ : ∃ n, u.length = n := ⟨_, rfl⟩
  obtain ⟨n2, hn2⟩ : ∃ n, v.length = n := ⟨_, rfl⟩
  have z1 : (m : Int) - (a : Int) = (n1 : Int) := by omega
  have z2 : (e : Int) - (m : Int) = (n2 : Int) := by omega
  have hm2 : m ≤ 2097152 := by omega
  have he2 : e ≤ 2097152 := by omega
  have HB : Hid (x.length + n1 = m ∧ x.length + n1 + n2 + y.length = L ∧ 0 < n1 ∧ 0 < n2 ∧ u.length = n1 ∧ v.length = n2) := ⟨by omega, by omega, by omega, by omega, hn1, hn2⟩
  clear h hT hL hl hu hv h1 h2 h3 hn1 hn2 hle
  go_enter Try.func31, Try.ntmps31
  go_wp2
  go_loopw [10, 11] (fun iv jv wr => ∃ (i j : Nat) (X U Z Y : List V), iv = .int .i64 i ∧ jv = .int .i64 j ∧ 0 < i ∧ 0 < j ∧ i ≤ m ∧ m + j ≤ L ∧ Hid (U.length = i ∧ Z.length = j ∧ X.length + i = m ∧ X.length + i + j + Y.length = L) ∧ Hid (SS w0 b c (X ++ U ++ Z ++ Y) wr) ∧ Hid (X ++ Z ++ U ++ Y = T)) (fun iv jv _ => (intOf iv).toNat + (intOf jv).toNat)
  case atStart =>
    obtain ⟨q1, q2, q3, q4, q5, q6⟩ := HB.out
    exact ⟨n1, n2, x, u, v, y, rfl, rfl, q3, q4, by omega, by omega, ⟨q5, q6, q1, q2⟩, HS0, HT⟩
  case round =>
    clear HB HS0 HT z1 z2
    obtain ⟨i, j, X, U, Z, Y, rfl, rfl, hi0, hj0, him, hjm, HB, HS, HT⟩ := hrel
    have kS := fun (a' m' n' : Nat) h1 h2 => swr_any b c a' m' n' cap (X ++ U ++ Z ++ Y) w0 wr HS.out h1 h2 (by obtain ⟨q1, q2, q3, q4⟩ := HB.out; simp; omega)
    have hLen : (X ++ U ++ Z ++ Y).length = L := by obtain ⟨q1, q2, q3, q4⟩ := HB.out; simp; omega
    rw [hLen] at kS
    have hmi : (m : Int) - (i : Int) = ((m - i : Nat) : Int) := by omega
    rcases Nat.lt_trichotomy i j with hij | hij | hij
    · have hne : ¬ (i : Int) = (j : Int) := by omega
      have hgt : ¬ (j : Int) < (i : Int) := by omega
      have hmj : (m : Int) + (j : Int) - (i : Int) = ((m + j - i : Nat) : Int) := by omega
      have kS' := kS (m - i) (m + j - i) i (by omega) (by omega)
      rw [← hmi, ← hmj] at kS'
      have HN : Hid (swr (X ++ U ++ Z ++ Y) (m - i) (m + j - i) i = X ++ Z.drop (j - i) ++ Z.take (j - i) ++ (U ++ Y)) := by
        obtain ⟨q1, q2, q3, q4⟩ := HB.out
        have := swr_parts X U (Z.take (j - i)) (Z.drop (j - i)) Y (by rw [List.length_drop]; omega)
        rw [List.length_take, q1, Nat.min_eq_left (by omega), show X.length + i + (j - i) = m + j - i from by omega, show X.length = m - i from by omega] at this
        have e : X ++ U ++ Z.take (j - i) ++ Z.drop (j - i) ++ Y = X ++ U ++ Z ++ Y := by
          rw [List.append_assoc (X ++ U), List.take_append_drop]
        rw [e] at this
        show _ = _
        rw [this]; simp
      have HT2 : Hid (X ++ Z.take (j - i) ++ Z.drop (j - i) ++ (U ++ Y) = T) := by
        show _ = _
        rw [List.append_assoc X, List.take_append_drop, ← HT.out]; simp
      have HB2 : Hid ((Z.drop (j - i)).length = i ∧ (Z.take (j - i)).length = j - i ∧ X.length + i = m ∧ X.length + i + (j - i) + (U ++ Y).length = L) := by
        obtain ⟨q1, q2, q3, q4⟩ := HB.out
        refine ⟨by rw [List.length_drop]; omega, by rw [List.length_take]; omega, q3, by rw [List.length_append]; omega⟩
      clear hmi hmj kS hLen
      go_wp2_with fail
      refine kS'.mono ?_
      rintro r w1 ⟨rfl, hs⟩
      have HS2 : Hid (SS w0 b c (X ++ Z.drop (j - i) ++ Z.take (j - i) ++ (U ++ Y)) w1) := by show SS _ _ _ _ _; rw [← HN.out]; exact hs
      clear hs kS'
      go_wp2
      go_roundw
      case rel => exact ⟨i, j - i, X, Z.drop (j - i), Z.take (j - i), U ++ Y, rfl, by first | go_num | (congr 1; omega), hi0, by omega, him, by omega, HB2, HS2, HT2⟩
      case measure => simp [intOf]; omega
    · subst hij
      have kS' := kS (m - i) m i (by omega) (by omega)
      rw [← hmi] at kS'
      have HN : Hid (swr (X ++ U ++ Z ++ Y) (m - i) m i = T) := by
        obtain ⟨q1, q2, q3, q4⟩ := HB.out
        have := swr_parts X U [] Z Y (by omega)
        rw [List.length_nil, Nat.add_zero, q1, q3, show X.length = m - i from by omega] at this
        show _ = _
        rw [List.append_nil, List.append_nil] at this
        rw [this, HT.out]
      clear hmi kS hLen
      go_wp2_with fail
      refine kS'.mono ?_
      rintro r w1 ⟨rfl, hs⟩
      rw [HN.out] at hs
      have HS2 : Hid (SS w0 b c T w1) := hs
      clear hs kS'
      go_wp2
      go_end0
      exact ⟨rfl, HS2.out⟩
    · have hne : ¬ (i : Int) = (j : Int) := by omega
      have hgt : (j : Int) < (i : Int) := by omega
      have kS' := kS (m - i) m j (by omega) (by omega)
      rw [← hmi] at kS'
      have HN : Hid (swr (X ++ U ++ Z ++ Y) (m - i) m j = (X ++ Z) ++ U.drop j ++ U.take j ++ Y) := by
        obtain ⟨q1, q2, q3, q4⟩ := HB.out
        have := swr_parts X (U.take j) (U.drop j) Z Y (by rw [List.length_take]; omega)
        rw [List.length_take, List.length_drop, q1, Nat.min_eq_left (by omega), show X.length + j + (i - j) = m from by omega, show X.length = m - i from by omega] at this
        have e : X ++ U.take j ++ U.drop j ++ Z ++ Y = X ++ U ++ Z ++ Y := by
          rw [List.append_assoc X, List.take_append_drop]
        rw [e] at this
        exact this
      have HT2 : Hid ((X ++ Z) ++ U.take j ++ U.drop j ++ Y = T) := by
        show _ = _
        rw [List.append_assoc (X ++ Z), List.take_append_drop, ← HT.out]
      have HB2 : Hid ((U.drop j).length = i - j ∧ (U.take j).length = j ∧ (X ++ Z).length + (i - j) = m ∧ (X ++ Z).length + (i - j) + j + Y.length = L) := by
        obtain ⟨q1, q2, q3, q4⟩ := HB.out
        refine ⟨by rw [List.length_drop]; omega, by rw [List.length_take]; omega, by rw [List.length_append]; omega, by rw [List.length_append]; omega⟩
      clear hmi kS hLen
      go_wp2_with fail
      refine kS'.mono ?_
      rintro r w1 ⟨rfl, hs⟩
      have HS2 : Hid (SS w0 b c ((X ++ Z) ++ U.drop j ++ U.take j ++ Y) w1) := by show SS _ _ _ _ _; rw [← HN.out]; exact hs
      clear hs kS'
      go_wp2
      go_roundw
      case rel => exact ⟨i - j, j, X ++ Z, U.drop j, U.take j, Y, by first | go_num | (congr 1; omega), rfl, by omega, hj0, by omega, hjm, HB2, HS2, HT2⟩
      case measure => simp [intOf]; omega
end Go.Proofs.Ytaeokecodejpdaa
