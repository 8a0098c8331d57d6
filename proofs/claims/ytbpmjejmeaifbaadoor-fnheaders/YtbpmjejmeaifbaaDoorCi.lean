/- What impl.ReadCommit answers; old memory stays. Conditions: texts of at most 2 to the 20 bytes. -/
import Derived.Test.YtbpmjejmeaifbaaDoorIr
import Derived.Test.YtbpmjejmeaifbaaDoorCr
import Derived.Test.YtbpmjejmeaifbaaDoorIc
namespace Go.Proofs.YtbpmjejmeaifbaaDoor
open Go.RowKit
open Num
set_option linter.unusedVariables false
theorem own_kept {W W' : World} {B n : Nat} {e : TypeId} {size : Nat} {r : Option Nat} {v : Value} {xs : List Value} (h : W.ownsRow B e size v n xs) (hg : W.grownBy W' r) (hr : ∀ j, r = some j → j < B) : W'.ownsRow B e size v n xs := by
  obtain ⟨h1, h2⟩ := h
  refine ⟨h1, ?_⟩
  rcases h2 with h2 | ⟨g, cap, cur, hv, hb, hh, r'⟩
  · exact Or.inl h2
  · exact Or.inr ⟨g, cap, cur, hv, hb, by rw [hg.block g ((Array.getElem?_eq_some_iff.1 hh).1) (fun e => by have := hr g e.symm; omega)]; exact hh, r'⟩
/-- The answer's block, the reader's, the commit's, one behind the other; behind them its row. -/
def RI (w W : World) (s : ByteArray) (y : Ct) (q : Value) : Prop := Blk W w.heap.size [.int .i64 0, .int .i64 0, .string ⟨#[]⟩, .slice none 0 0] 33 ∧ Rdr W (w.heap.size + 1) s ∧ Blk W (w.heap.size + 1 + 1) [.int .i64 y.h, .int .i64 y.r, .string y.i, q] 33 ∧ OwnS W (w.heap.size + 1 + 1 + 1) q y.l ∧ Below w.heap.size w W
theorem RI.grown {w W W' : World} {s s' : ByteArray} {y : Ct} {q : Value} (h : RI w W s y q) (hg : W.grownBy W' (some (w.heap.size + 1))) (hr : Rdr W' (w.heap.size + 1) s') : RI w W' s' y q :=
  ⟨h.1.grown hg (by simp), hr, h.2.2.1.grown hg (by simp), own_kept h.2.2.2.1 hg (fun j e => by injection e; omega), h.2.2.2.2.grown hg (Nat.le_of_lt h.1.lt) (fun k hk => by injection hk; omega)⟩
theorem RI.below {w W W' : World} {s : ByteArray} {y : Ct} {q : Value} (h : RI w W s y q) (hb : Below W.heap.size W W') : RI w W' s y q :=
  ⟨h.1.below hb h.1.lt, h.2.1.keep hb, h.2.2.1.below hb h.2.2.1.lt, own_keep h.2.2.2.1 hb, h.2.2.2.2.trans (hb.mono (Nat.le_of_lt h.1.lt))⟩
theorem Rdr.otherC {W : World} {g b k : Nat} {s : ByteArray} {u : Value} (h : Rdr W b s) (hne : g ≠ b) : Rdr (W.setCell ⟨g, k, none⟩ u) b s :=
  ⟨by rw [World.cell?_setCell_other W ⟨g, k, none⟩ ⟨b, 0, none⟩ u (fun e => hne (by injection e))]; exact h.1, by rw [World.frozen?_setCell]; exact h.2⟩
theorem RI.set {w W : World} {s : ByteArray} {y z : Ct} {q : Value} (h : RI w W s y q) (j : Nat) (u : Value) (he : ([.int .i64 y.h, .int .i64 y.r, .string y.i, q] : List Value).set j u = [.int .i64 z.h, .int .i64 z.r, .string z.i, q]) (hl : z.l = y.l) : RI w (W.setCell ⟨w.heap.size + 1 + 1, j, none⟩ u) s z q :=
  ⟨h.1.other j u (by omega), h.2.1.otherC (by omega), he ▸ h.2.2.1.set j u, by rw [hl]; exact ownsRow_setCell_below h.2.2.2.1 (Nat.lt_succ_self _) _, h.2.2.2.2.setCell (by show w.heap.size ≤ w.heap.size + 1 + 1; omega) _⟩
theorem RI.app {w W w1 w4 : World} {s : ByteArray} {y : Ct} {q v4 : Value} {x : Sg} (h : RI w W s y q) (hb : Below W.heap.size W w1) (hg : w1.grownBy w4 q.ownBlock) (ho : w4.ownsRow (w.heap.size + 1 + 1 + 1) 77 2 v4 (y.l.length + 1) (sgs y.l ++ sgs [x])) :
    RI w (w4.setCell ⟨w.heap.size + 1 + 1, 3, none⟩ v4) s ⟨y.h, y.r, y.i, y.l ++ [x]⟩ v4 := by
  have h1 := h.below hb
  have hq : ∀ j, q.ownBlock = some j → w.heap.size + 1 + 1 + 1 ≤ j := fun j e => (h1.2.2.2.1.lt _ e).1
  have n0 : q.ownBlock ≠ some w.heap.size := fun e => by have := hq _ e; omega
  have n1 : q.ownBlock ≠ some (w.heap.size + 1) := fun e => by have := hq _ e; omega
  have n2 : q.ownBlock ≠ some (w.heap.size + 1 + 1) := fun e => by have := hq _ e; omega
  have hR : Rdr w4 (w.heap.size + 1) s := by
    have hb1 : w4.heap[w.heap.size + 1]? = w1.heap[w.heap.size + 1]? := hg.block _ h1.2.1.lt (fun e => n1 e.symm)
    exact ⟨(World.cell?_of_block (a := ⟨w.heap.size + 1, 0, none⟩) hb1).trans h1.2.1.1, (World.frozen?_of_block (a := ⟨w.heap.size + 1, 0, none⟩) hb1).trans h1.2.1.2⟩
  refine ⟨(h1.1.grown hg n0).other 3 v4 (by omega), hR.otherC (by omega), (h1.2.2.1.grown hg n2).set 3 v4, ?_, ?_⟩
  · exact own_snocS (ownsRow_setCell_below ho (Nat.lt_succ_self _) _)
  · exact (h1.2.2.2.2.grown hg (Nat.le_of_lt h1.1.lt) (fun j hj => by have := hq j hj; omega)).setCell (by show w.heap.size ≤ w.heap.size + 1 + 1; omega) _
theorem ri_new (w : World) (s : ByteArray) : RI w (((w.alloc (.cells [.int .i64 0, .int .i64 0, .string ⟨#[]⟩, .slice none 0 0].toArray 33)).alloc (.cells #[.string s] 57)).alloc (.cells [.int .i64 0, .int .i64 0, .string ⟨#[]⟩, .slice none 0 0].toArray 33)) s zC (.slice none 0 0) := by
  have h0 := blk_new w [.int .i64 0, .int .i64 0, .string ⟨#[]⟩, .slice none 0 0] 33
  have s1 : (w.alloc (.cells [.int .i64 0, .int .i64 0, .string ⟨#[]⟩, .slice none 0 0].toArray 33)).heap.size = w.heap.size + 1 := by simp
  have h1 := blk_new (w.alloc (.cells [.int .i64 0, .int .i64 0, .string ⟨#[]⟩, .slice none 0 0].toArray 33)) [.string s] 57
  rw [s1] at h1
  have s2 : ((w.alloc (.cells [.int .i64 0, .int .i64 0, .string ⟨#[]⟩, .slice none 0 0].toArray 33)).alloc (.cells #[.string s] 57)).heap.size = w.heap.size + 1 + 1 := by simp
  have h2 := blk_new ((w.alloc (.cells [.int .i64 0, .int .i64 0, .string ⟨#[]⟩, .slice none 0 0].toArray 33)).alloc (.cells #[.string s] 57)) [.int .i64 0, .int .i64 0, .string ⟨#[]⟩, .slice none 0 0] 33
  rw [s2] at h2
  have h1' := h1.alloc (.cells [.int .i64 0, .int .i64 0, .string ⟨#[]⟩, .slice none 0 0].toArray 33)
  exact ⟨(h0.alloc _).alloc _, ⟨h1'.cell 0 rfl, h1'.frozen 0⟩, h2, OwnS.nil _ _, (((Below.refl _ _).alloc (Nat.le_refl _) _).alloc (by simp) _).alloc (by simp; omega) _⟩
theorem irG_step {n k : Nat} (hk : k < n) (r : ByteArray) : irG (n - k) r = ⟨nI r, zP (nR r)⟩ :: irG (n - (k + 1)) (zR (nR r)) := by
  rw [show n - k = (n - (k + 1)) + 1 from by omega]; rfl
set_option maxHeartbeats 3200000 in
set_option maxRecDepth 100000 in
theorem impl_readC (s : ByteArray) (w : World) (hs : s.size ≤ 1048576) :
    Calls Tryd.prog 13 #[.string s] w fun e w' => ∃ q, e = .returned (.tuple #[cQ (rdC s).1 q, .bool (rdC s).2]) ∧ OwnS w' w.heap.size q (rdC s).1.l ∧ Below w.heap.size w w' := by
  obtain ⟨i0, hinf, hz0, hz1, hz2⟩ := infoSf
  have HS0 : Hid (RI w (((w.alloc (.cells [.int .i64 0, .int .i64 0, .string ⟨#[]⟩, .slice none 0 0].toArray 33)).alloc (.cells #[.string s] 57)).alloc (.cells [.int .i64 0, .int .i64 0, .string ⟨#[]⟩, .slice none 0 0].toArray 33)) s zC (.slice none 0 0)) := ri_new w s
  obtain ⟨X0, e0⟩ : ∃ x, nI s = x := ⟨_, rfl⟩
  obtain ⟨s1, f1⟩ : ∃ x, nR s = x := ⟨_, rfl⟩
  obtain ⟨X1, e1⟩ : ∃ x, nI s1 = x := ⟨_, rfl⟩
  obtain ⟨s2, f2⟩ : ∃ x, nR s1 = x := ⟨_, rfl⟩
  obtain ⟨I, e2⟩ : ∃ x, zP s2 = x := ⟨_, rfl⟩
  obtain ⟨s3, f3⟩ : ∃ x, zR s2 = x := ⟨_, rfl⟩
  obtain ⟨N, e3⟩ : ∃ x, nI s3 = x := ⟨_, rfl⟩
  obtain ⟨s4, f4⟩ : ∃ x, nR s3 = x := ⟨_, rfl⟩
  have hT : irT s = s3 := by unfold irT; rw [f1, f2, f3]
  have HY : Hid (irC s = ⟨X0, X1, I, irG N.toNat s4⟩) := by
    show _ = _
    unfold irC
    rw [hT, f4, e3, f1, f2, e0, e1, e2]
  have HN : Hid (nI (irT s) = N) := by show _ = _; rw [hT]; exact e3
  have hN0 : 0 ≤ N := by rw [← e3]; exact (rv_bound s3.data.toList).2.1
  have z1 := nR_size s
  have z2 := nR_size s1
  have z3 := zR_size s2
  have z4 := nR_size s3
  have zI := zP_size s2
  rw [f1] at z1
  rw [f2] at z2
  rw [f3] at z3
  rw [f4] at z4
  rw [e2] at zI
  have k0 := fun W (h : Rdr W (w.heap.size + 1) s) => impl_rnum (w.heap.size + 1) s W h (by omega)
  have k1 := fun W (h : Rdr W (w.heap.size + 1) s1) => impl_rnum (w.heap.size + 1) s1 W h (by omega)
  have k2 := fun W (h : Rdr W (w.heap.size + 1) s2) => impl_rsized (w.heap.size + 1) s2 W h (by omega)
  have k3 := fun W (h : Rdr W (w.heap.size + 1) s3) => impl_rnum (w.heap.size + 1) s3 W h (by omega)
  rw [e0, f1] at k0
  rw [e1, f2] at k1
  rw [e2, f3] at k2
  rw [e3, f4] at k3
  have hIs : I.size ≤ s.size := by omega
  have hs4 : s4.size ≤ s.size := by omega
  obtain ⟨n, rfl⟩ : ∃ n : Nat, N = (n : Int) := ⟨N.toNat, by omega⟩
  rw [Int.toNat_natCast] at HY
  clear e0 e1 e2 e3 f1 f2 f3 f4 z1 z2 z3 z4 zI hT hN0
  have HBAD : Hid (¬ (n : Int) ≤ 12 → rdC s = (zC, false)) := fun h => rdC_many (by rw [HN.out]; exact h)
  have HBAD2 : Hid (cOk ⟨X0, X1, I, irG n s4⟩ = false → rdC s = (zC, false)) := fun h => rdC_bad (by rw [HY.out]; exact h)
  have HBAD3 : Hid (¬ showC ⟨X0, X1, I, irG n s4⟩ = s → rdC s = (zC, false)) := fun h => rdC_other (by rw [HY.out]; exact h)
  have HGOOD : Hid ((n : Int) ≤ 12 → cOk ⟨X0, X1, I, irG n s4⟩ = true → showC ⟨X0, X1, I, irG n s4⟩ = s → rdC s = (⟨X0, X1, I, irG n s4⟩, true)) := fun h0 h h1 => by
    rw [rdC_good (by rw [HN.out]; exact h0) (by rw [HY.out]; exact h) (by rw [HY.out]; exact h1), HY.out]
  obtain ⟨rd, hrd⟩ : ∃ r, rdC s = r := ⟨_, rfl⟩
  rw [hrd] at HBAD HBAD2 HBAD3 HGOOD ⊢
  clear hrd HY HN
  unfold zC at HS0
  go_enter Tryd.func13, Tryd.ntmps13
  go_wp2_with fail
  generalize ((w.alloc (Obj.cells #[Value.int .i64 0, Value.int .i64 0, Value.string ⟨#[]⟩, Value.slice none 0 0] 33)).alloc (Obj.cells #[Value.string s] 57)).alloc (Obj.cells #[Value.int .i64 0, Value.int .i64 0, Value.string ⟨#[]⟩, Value.slice none 0 0] 33) = v0 at *
  refine (k0 _ HS0.out.2.1).mono ?_
  rintro e w0 ⟨rfl, rfl⟩
  have HT0 : Hid (RI w (v0.setCell ⟨w.heap.size + 1, 0, none⟩ (.string s1)) s1 ⟨0, 0, ⟨#[]⟩, []⟩ (.slice none 0 0)) := HS0.out.grown (grown_set (grown_refl _ _) _) (HS0.out.2.1.put _)
  generalize v0.setCell ⟨w.heap.size + 1, 0, none⟩ (.string s1) = u0 at *
  clear HS0
  have x0 := HT0.out.2.2.1.cell 0 rfl
  have g0 := HT0.out.2.2.1.frozen 0
  have HS1 : Hid (RI w (u0.setCell ⟨w.heap.size + 1 + 1, 0, none⟩ (.int .i64 X0)) s1 ⟨X0, 0, ⟨#[]⟩, []⟩ (.slice none 0 0)) := HT0.out.set 0 _ rfl rfl
  go_wp2_with fail
  clear x0 g0 HT0
  generalize u0.setCell ⟨w.heap.size + 1 + 1, 0, none⟩ (.int .i64 X0) = v1 at *
  refine (k1 _ HS1.out.2.1).mono ?_
  rintro e w1 ⟨rfl, rfl⟩
  have HT1 : Hid (RI w (v1.setCell ⟨w.heap.size + 1, 0, none⟩ (.string s2)) s2 ⟨X0, 0, ⟨#[]⟩, []⟩ (.slice none 0 0)) := HS1.out.grown (grown_set (grown_refl _ _) _) (HS1.out.2.1.put _)
  generalize v1.setCell ⟨w.heap.size + 1, 0, none⟩ (.string s2) = u1 at *
  clear HS1
  have x1 := HT1.out.2.2.1.cell 1 rfl
  have g1 := HT1.out.2.2.1.frozen 1
  have HS2 : Hid (RI w (u1.setCell ⟨w.heap.size + 1 + 1, 1, none⟩ (.int .i64 X1)) s2 ⟨X0, X1, ⟨#[]⟩, []⟩ (.slice none 0 0)) := HT1.out.set 1 _ rfl rfl
  go_wp2_with fail
  clear x1 g1 HT1
  generalize u1.setCell ⟨w.heap.size + 1 + 1, 1, none⟩ (.int .i64 X1) = v2 at *
  refine (k2 _ HS2.out.2.1).mono ?_
  rintro e u2 ⟨rfl, hr, hg⟩
  have HT2 : Hid (RI w u2 s3 ⟨X0, X1, ⟨#[]⟩, []⟩ (.slice none 0 0)) := HS2.out.grown hg hr
  clear hr hg HS2
  have x2 := HT2.out.2.2.1.cell 2 rfl
  have g2 := HT2.out.2.2.1.frozen 2
  have HS3 : Hid (RI w (u2.setCell ⟨w.heap.size + 1 + 1, 2, none⟩ (.string I)) s3 ⟨X0, X1, I, []⟩ (.slice none 0 0)) := HT2.out.set 2 _ rfl rfl
  go_wp2_with fail
  clear x2 g2 HT2
  generalize u2.setCell ⟨w.heap.size + 1 + 1, 2, none⟩ (.string I) = v3 at *
  refine (k3 _ HS3.out.2.1).mono ?_
  rintro e w3 ⟨rfl, rfl⟩
  have HT3 : Hid (RI w (v3.setCell ⟨w.heap.size + 1, 0, none⟩ (.string s4)) s4 ⟨X0, X1, I, []⟩ (.slice none 0 0)) := HS3.out.grown (grown_set (grown_refl _ _) _) (HS3.out.2.1.put _)
  generalize v3.setCell ⟨w.heap.size + 1, 0, none⟩ (.string s4) = u3 at *
  clear HS3 k0 k1 k2 k3
  by_cases hn12 : (12 : Int) < (n : Int)
  · have HE : Hid (rd = (zC, false)) := HBAD.out (by omega)
    have HR5 : Hid (Blk u3 w.heap.size [.int .i64 0, .int .i64 0, .string ⟨#[]⟩, .slice none 0 0] 33) := HT3.out.1
    have HB5 : Hid (Below w.heap.size w u3) := HT3.out.2.2.2.2
    have x0 := HR5.out.cell 0 rfl
    have x1 := HR5.out.cell 1 rfl
    have x2 := HR5.out.cell 2 rfl
    have x3 := HR5.out.cell 3 rfl
    have f0 := HR5.out.frozen 0
    have f1 := HR5.out.frozen 1
    have f2 := HR5.out.frozen 2
    have f3 := HR5.out.frozen 3
    have HZ : Hid (Blk ((((u3.setCell ⟨w.heap.size, 0, none⟩ (.int .i64 0)).setCell ⟨w.heap.size, 1, none⟩ (.int .i64 0)).setCell ⟨w.heap.size, 2, none⟩ (.string ⟨#[]⟩)).setCell ⟨w.heap.size, 3, none⟩ (.slice none 0 0)) w.heap.size [.int .i64 0, .int .i64 0, .string ⟨#[]⟩, .slice none 0 0] 33) := (((HR5.out.set 0 _).set 1 _).set 2 _).set 3 _
    have HBz : Hid (Below w.heap.size w ((((u3.setCell ⟨w.heap.size, 0, none⟩ (.int .i64 0)).setCell ⟨w.heap.size, 1, none⟩ (.int .i64 0)).setCell ⟨w.heap.size, 2, none⟩ (.string ⟨#[]⟩)).setCell ⟨w.heap.size, 3, none⟩ (.slice none 0 0))) := (((HB5.out.setCell (Nat.le_refl _) _).setCell (Nat.le_refl _) _).setCell (Nat.le_refl _) _).setCell (Nat.le_refl _) _
    have HOz : Hid (OwnS ((((u3.setCell ⟨w.heap.size, 0, none⟩ (.int .i64 0)).setCell ⟨w.heap.size, 1, none⟩ (.int .i64 0)).setCell ⟨w.heap.size, 2, none⟩ (.string ⟨#[]⟩)).setCell ⟨w.heap.size, 3, none⟩ (.slice none 0 0)) w.heap.size (.slice none 0 0) []) := OwnS.nil _ _
    go_wp2
    clear x0 x1 x2 x3 f0 f1 f2 f3 
    have y0 := HZ.out.cell 0 rfl
    have y1 := HZ.out.cell 1 rfl
    have y2 := HZ.out.cell 2 rfl
    have y3 := HZ.out.cell 3 rfl
    refine bodyPost_ret (v := .tuple #[.agg #[.int .i64 0, .int .i64 0, .string ⟨#[]⟩, .slice none 0 0], .bool false]) ?_ rfl ?_
    · generalize hW : ((((u3.setCell _ _).setCell _ _).setCell _ _).setCell _ _ : World) = W at *
      clear HZ HBz HOz
      simp [results, Tryd.results13, go_sem, y0, y1, y2, y3]
    · rw [HE.out]; exact ⟨_, rfl, HOz.out, HBz.out⟩
  have hn : n ≤ 12 := by omega
  go_wp2
  go_loopw [25] (fun iv wr => ∃ (k : Nat) (r : ByteArray) (q : Value) (l : List Sg), k ≤ n ∧ iv = .int .i64 k ∧ Hid (irG n s4 = l ++ irG (n - k) r) ∧ Hid (l.length = k) ∧ r.size ≤ s.size ∧ Hid (∀ y ∈ l, y.s.size ≤ s.size) ∧ Hid (RI w wr r ⟨X0, X1, I, l⟩ q)) (fun iv _ => n - (intOf iv).toNat)
  case atStart => exact ⟨0, s4, _, [], Nat.zero_le _, rfl, rfl, rfl, hs4, (fun y hy => by cases hy), HT3⟩
  case round =>
    obtain ⟨k, r, q, l, hk, rfl, HG, hlk, hr, HA, HI⟩ := hrel
    clear HT3
    by_cases hlt : k < n
    · have hltz : (k : Int) < (n : Int) := by omega
      have HG2 : Hid (irG n s4 = (l ++ [⟨nI r, zP (nR r)⟩]) ++ irG (n - (k + 1)) (zR (nR r))) := by show _ = _; rw [HG.out, irG_step hlt, List.append_assoc]; rfl
      have q1 := nR_size r
      have q2 := zR_size (nR r)
      have q3 := zP_size (nR r)
      have kN := fun W (h : Rdr W (w.heap.size + 1) r) => impl_rnum (w.heap.size + 1) r W h (by omega)
      have kZ := fun W (h : Rdr W (w.heap.size + 1) (nR r)) => impl_rsized (w.heap.size + 1) (nR r) W h (by omega)
      generalize nI r = X at *
      generalize nR r = r1 at *
      generalize zP r1 = S at *
      generalize zR r1 = r2 at *
      have HA2 : Hid (∀ y ∈ l ++ [⟨X, S⟩], y.s.size ≤ s.size) := fun y hy => by
        rcases List.mem_append.1 hy with hy | hy
        · exact HA.out y hy
        · rw [List.mem_singleton] at hy; subst hy; show S.size ≤ s.size; omega
      have hr2 : r2.size ≤ s.size := by omega
      have HLL : Hid ((l ++ [(⟨X, S⟩ : Sg)]).length = k + 1) := by show _ = _; rw [List.length_append, hlk.out]; rfl
      have hl12 : l.length ≤ 12 := by have := hlk.out; omega
      clear q1 q2 q3 HG HA hr
      go_wp2_with fail
      refine (kN _ HI.out.2.1).mono ?_
      rintro e w5 ⟨rfl, rfl⟩
      have HI1 : Hid (RI w (wr.setCell ⟨w.heap.size + 1, 0, none⟩ (.string r1)) r1 ⟨X0, X1, I, l⟩ q) := HI.out.grown (grown_set (grown_refl _ _) _) (HI.out.2.1.put _)
      generalize wr.setCell ⟨w.heap.size + 1, 0, none⟩ (.string r1) = w6 at *
      clear HI kN
      obtain ⟨qa, qc, rfl⟩ := own_shape HI1.out.2.2.2.1
      simp only at HI1
      have HI2 : Hid (RI w w6.drew r1 ⟨X0, X1, I, l⟩ (.slice qa l.length qc)) := HI1.out.below (Below.refl _ _).drew
      have x3 := HI1.out.2.2.1.cell 3 rfl
      have f3 := HI1.out.2.2.1.frozen 3
      go_wp2_with fail
      go_region_law (first | (refine step_append_row (by rfl) _ _ 31 (by rfl) (w.heap.size + 1 + 1 + 1) 77 i0 (.agg #[.int .i64 0, .string ⟨#[]⟩]) 2 24 Tryd.underlying31 hinf hz0 hz1 hz2 rfl (by decide) _ _ _ (by rfl) HO7.out ⟨w7.heap.size, 0, none⟩ 1 1 (sgs [⟨X, S⟩]) (by rfl) (by rfl) HC7.out (sgs_one _) (by unfold maxLen; omega) (by omega) (by simp; omega) ?_; intro v8 w8 hown8 hgrow8 _; obtain ⟨a8, c8, rfl⟩ := own_shape hown8; have HX8 : Hid (Blk w8 (w.heap.size + 1 + 1) [.int .i64 X0, .int .i64 X1, .string I, .slice qa l.length qc] 33) := (HI7.out.2.2.1.below HA7.out hg7).grown hgrow8 (fun e => by have := (HI7.out.2.2.2.1.lt _ e).1; omega); have x8 := HX8.out.cell 3 rfl; have f8 := HX8.out.frozen 3) | (refine step_call1 (by rfl) 32 _ _ (by rfl) Tryd.f32 Tryd.func32 (by kernel_rfl) (by kernel_rfl) _ _ (by rfl) _ (kZ _ HI2.out.2.1) ?_; rintro w7 ⟨hr7, hg7'⟩; have HI7 : Hid (RI w w7 r2 ⟨X0, X1, I, l⟩ (.slice qa l.length qc)) := HI2.out.grown hg7' hr7; have y3 := HI7.out.2.2.1.cell 3 rfl; have y4 := HI7.out.2.2.1.frozen 3; have hg7 : w.heap.size + 1 + 1 < w7.heap.size := HI7.out.2.2.1.lt; have HO7 : Hid (OwnS (w7.alloc (.cells #[.int .i64 X, .string S] 77)) (w.heap.size + 1 + 1 + 1) (.slice qa l.length qc) l) := own_keep HI7.out.2.2.2.1 (below_one _ _); have HA7 : Hid (Below w7.heap.size w7 (w7.alloc (.cells #[.int .i64 X, .string S] 77))) := below_one _ _; have HC7 : Hid (_) := one_sg w7 ⟨X, S⟩ w7.heap.size rfl))
      all_goals
        have HF : Hid (RI w (w8.setCell ⟨w.heap.size + 1 + 1, 3, none⟩ (.slice a8 (l.length + 1) c8)) r2 ⟨X0, X1, I, l ++ [⟨X, S⟩]⟩ (.slice a8 (l.length + 1) c8)) := HI7.out.app HA7.out hgrow8 hown8
        clear x8 f8 x3 f3 y3 y4 hown8 hgrow8 HX8 HC7 HO7 HA7 hr7 hg7'
        go_wp2
        go_roundw
        case rel =>
          have R : ∃ (k' : Nat) (r : ByteArray) (q : Value) (l' : List Sg), k' ≤ n ∧ Value.int .i64 ((k : Int) + 1) = .int .i64 k' ∧ Hid (irG n s4 = l' ++ irG (n - k') r) ∧ Hid (l'.length = k') ∧ r.size ≤ s.size ∧ Hid (∀ y ∈ l', y.s.size ≤ s.size) ∧ Hid (RI w (w8.setCell ⟨w.heap.size + 1 + 1, 3, none⟩ (.slice a8 (l.length + 1) c8)) r ⟨X0, X1, I, l'⟩ q) := ⟨k + 1, r2, _, _, by omega, by go_num, HG2, HLL, hr2, HA2, HF⟩
          exact R
        case measure => simp [intOf]; omega
    · have hltz : ¬ (k : Int) < (n : Int) := by omega
      have HL : Hid (irG n s4 = l) := by show _ = _; rw [HG.out, show n - k = 0 from by omega]; show l ++ [] = l; rw [List.append_nil]
      rw [HL.out] at HBAD2 HBAD3 HGOOD
      obtain ⟨qa, qc, hqe, hqo, _, _⟩ := OwnS.o HI.out.2.2.2.1
      simp only at hqe hqo
      subst hqe
      have hsz : SzOk ⟨X0, X1, I, l⟩ := ⟨by show I.size ≤ _; omega, by have := hlk.out; show l.length ≤ _; omega, fun y hy => by have := HA.out y hy; omega⟩
      have kO := fun W (h : SO W qa l) => impl_shown ⟨X0, X1, I, l⟩ qa qc W h hsz
      have kS := fun W (h : SO W qa l) => impl_showC ⟨X0, X1, I, l⟩ qa qc W h hsz
      have HQO : Hid (SO wr qa l) := hqo
      clear hsz hqo HG HA
      have x0 := HI.out.2.2.1.cell 0 rfl
      have x1 := HI.out.2.2.1.cell 1 rfl
      have x2 := HI.out.2.2.1.cell 2 rfl
      have x3 := HI.out.2.2.1.cell 3 rfl
      unfold cV at kO kS
      simp only at kO kS
      rcases hO : cOk ⟨X0, X1, I, l⟩ with _ | _
      · have HE : Hid (rd = (zC, false)) := HBAD2.out hO
        rw [hO] at kO
        clear hO kS HBAD2 HBAD3 HGOOD
        go_wp2_with fail
        refine (kO _ HQO.out).mono ?_
        rintro e w8 ⟨rfl, b8⟩
        have HI8 : Hid (RI w w8 r ⟨X0, X1, I, l⟩ (.slice qa l.length qc)) := HI.out.below b8
        have HR8 : Hid (Blk w8 w.heap.size [.int .i64 0, .int .i64 0, .string ⟨#[]⟩, .slice none 0 0] 33) := HI8.out.1
        have HB8 : Hid (Below w.heap.size w w8) := HI8.out.2.2.2.2
        clear b8 x0 x1 x2 x3
        have x0 := HR8.out.cell 0 rfl
        have x1 := HR8.out.cell 1 rfl
        have x2 := HR8.out.cell 2 rfl
        have x3 := HR8.out.cell 3 rfl
        have f0 := HR8.out.frozen 0
        have f1 := HR8.out.frozen 1
        have f2 := HR8.out.frozen 2
        have f3 := HR8.out.frozen 3
        have HZ : Hid (Blk ((((w8.setCell ⟨w.heap.size, 0, none⟩ (.int .i64 0)).setCell ⟨w.heap.size, 1, none⟩ (.int .i64 0)).setCell ⟨w.heap.size, 2, none⟩ (.string ⟨#[]⟩)).setCell ⟨w.heap.size, 3, none⟩ (.slice none 0 0)) w.heap.size [.int .i64 0, .int .i64 0, .string ⟨#[]⟩, .slice none 0 0] 33) := (((HR8.out.set 0 _).set 1 _).set 2 _).set 3 _
        have HBz : Hid (Below w.heap.size w ((((w8.setCell ⟨w.heap.size, 0, none⟩ (.int .i64 0)).setCell ⟨w.heap.size, 1, none⟩ (.int .i64 0)).setCell ⟨w.heap.size, 2, none⟩ (.string ⟨#[]⟩)).setCell ⟨w.heap.size, 3, none⟩ (.slice none 0 0))) := (((HB8.out.setCell (Nat.le_refl _) _).setCell (Nat.le_refl _) _).setCell (Nat.le_refl _) _).setCell (Nat.le_refl _) _
        have HOz : Hid (OwnS ((((w8.setCell ⟨w.heap.size, 0, none⟩ (.int .i64 0)).setCell ⟨w.heap.size, 1, none⟩ (.int .i64 0)).setCell ⟨w.heap.size, 2, none⟩ (.string ⟨#[]⟩)).setCell ⟨w.heap.size, 3, none⟩ (.slice none 0 0)) w.heap.size (.slice none 0 0) []) := OwnS.nil _ _
        go_wp2
        clear x0 x1 x2 x3 f0 f1 f2 f3 
        have y0 := HZ.out.cell 0 rfl
        have y1 := HZ.out.cell 1 rfl
        have y2 := HZ.out.cell 2 rfl
        have y3 := HZ.out.cell 3 rfl
        refine bodyPost_ret (v := .tuple #[.agg #[.int .i64 0, .int .i64 0, .string ⟨#[]⟩, .slice none 0 0], .bool false]) ?_ rfl ?_
        · generalize hW : ((((w8.setCell _ _).setCell _ _).setCell _ _).setCell _ _ : World) = W at *
          clear HZ HBz HOz
          simp [results, Tryd.results13, go_sem, y0, y1, y2, y3]
        · rw [HE.out]; exact ⟨_, rfl, HOz.out, HBz.out⟩
      rw [hO] at kO
      by_cases hF : showC ⟨X0, X1, I, l⟩ = s
      · have HE : Hid (rd = (⟨X0, X1, I, l⟩, true)) := HGOOD.out (by omega) hO hF
        rw [hF] at kS
        have hbq : (s.toList == s.toList) = true := by simp
        clear hF hO HBAD2 HBAD3 HGOOD
        go_wp2_with fail
        refine (kO _ HQO.out).mono ?_
        rintro e w7 ⟨rfl, b7⟩
        have HI7 : Hid (RI w w7 r ⟨X0, X1, I, l⟩ (.slice qa l.length qc)) := HI.out.below b7
        have HQ7 : Hid (SO w7 qa l) := HQO.out.below b7
        clear b7 x0 x1 x2 x3
        have x0 := HI7.out.2.2.1.cell 0 rfl
        have x1 := HI7.out.2.2.1.cell 1 rfl
        have x2 := HI7.out.2.2.1.cell 2 rfl
        have x3 := HI7.out.2.2.1.cell 3 rfl
        go_wp2_with fail
        refine (kS _ HQ7.out).mono ?_
        rintro e w8 ⟨rfl, b8⟩
        have HI8 : Hid (RI w w8 r ⟨X0, X1, I, l⟩ (.slice qa l.length qc)) := HI7.out.below b8
        have HR8 : Hid (Blk w8 w.heap.size [.int .i64 0, .int .i64 0, .string ⟨#[]⟩, .slice none 0 0] 33) := HI8.out.1
        have HB8 : Hid (Below w.heap.size w w8) := HI8.out.2.2.2.2
        clear b8 x0 x1 x2 x3
        have q0 := HI8.out.2.2.1.cell 0 rfl
        have q1 := HI8.out.2.2.1.cell 1 rfl
        have q2 := HI8.out.2.2.1.cell 2 rfl
        have q3 := HI8.out.2.2.1.cell 3 rfl
        have x0 := HR8.out.cell 0 rfl
        have x1 := HR8.out.cell 1 rfl
        have x2 := HR8.out.cell 2 rfl
        have x3 := HR8.out.cell 3 rfl
        have f0 := HR8.out.frozen 0
        have f1 := HR8.out.frozen 1
        have f2 := HR8.out.frozen 2
        have f3 := HR8.out.frozen 3
        have HZ : Hid (Blk ((((w8.setCell ⟨w.heap.size, 0, none⟩ (.int .i64 X0)).setCell ⟨w.heap.size, 1, none⟩ (.int .i64 X1)).setCell ⟨w.heap.size, 2, none⟩ (.string I)).setCell ⟨w.heap.size, 3, none⟩ (.slice qa l.length qc)) w.heap.size [.int .i64 X0, .int .i64 X1, .string I, .slice qa l.length qc] 33) := (((HR8.out.set 0 _).set 1 _).set 2 _).set 3 _
        have HBz : Hid (Below w.heap.size w ((((w8.setCell ⟨w.heap.size, 0, none⟩ (.int .i64 X0)).setCell ⟨w.heap.size, 1, none⟩ (.int .i64 X1)).setCell ⟨w.heap.size, 2, none⟩ (.string I)).setCell ⟨w.heap.size, 3, none⟩ (.slice qa l.length qc))) := (((HB8.out.setCell (Nat.le_refl _) _).setCell (Nat.le_refl _) _).setCell (Nat.le_refl _) _).setCell (Nat.le_refl _) _
        have HOz : Hid (OwnS ((((w8.setCell ⟨w.heap.size, 0, none⟩ (.int .i64 X0)).setCell ⟨w.heap.size, 1, none⟩ (.int .i64 X1)).setCell ⟨w.heap.size, 2, none⟩ (.string I)).setCell ⟨w.heap.size, 3, none⟩ (.slice qa l.length qc)) w.heap.size (.slice qa l.length qc) l) := own_setS (own_setS (own_setS (own_setS HI8.out.2.2.2.1 (Nat.le_refl _) (by omega)) (Nat.le_refl _) (by omega)) (Nat.le_refl _) (by omega)) (by omega) (by omega)
        go_wp2
        clear x0 x1 x2 x3 f0 f1 f2 f3 q0 q1 q2 q3
        have y0 := HZ.out.cell 0 rfl
        have y1 := HZ.out.cell 1 rfl
        have y2 := HZ.out.cell 2 rfl
        have y3 := HZ.out.cell 3 rfl
        refine bodyPost_ret (v := .tuple #[.agg #[.int .i64 X0, .int .i64 X1, .string I, .slice qa l.length qc], .bool true]) ?_ rfl ?_
        · generalize hW : ((((w8.setCell _ _).setCell _ _).setCell _ _).setCell _ _ : World) = W at *
          clear HZ HBz HOz
          simp [results, Tryd.results13, go_sem, y0, y1, y2, y3]
        · rw [HE.out]; exact ⟨_, rfl, HOz.out, HBz.out⟩
      · have HE : Hid (rd = (zC, false)) := HBAD3.out hF
        generalize showC ⟨X0, X1, I, l⟩ = qs at *
        have hbq : (qs.toList == s.toList) = false := by
          rw [← Bool.not_eq_true, beq_iff_eq]
          intro e
          exact hF (toList_inj e)
        clear hF hO HBAD2 HBAD3 HGOOD
        go_wp2_with fail
        refine (kO _ HQO.out).mono ?_
        rintro e w7 ⟨rfl, b7⟩
        have HI7 : Hid (RI w w7 r ⟨X0, X1, I, l⟩ (.slice qa l.length qc)) := HI.out.below b7
        have HQ7 : Hid (SO w7 qa l) := HQO.out.below b7
        clear b7 x0 x1 x2 x3
        have x0 := HI7.out.2.2.1.cell 0 rfl
        have x1 := HI7.out.2.2.1.cell 1 rfl
        have x2 := HI7.out.2.2.1.cell 2 rfl
        have x3 := HI7.out.2.2.1.cell 3 rfl
        go_wp2_with fail
        refine (kS _ HQ7.out).mono ?_
        rintro e w8 ⟨rfl, b8⟩
        have HI8 : Hid (RI w w8 r ⟨X0, X1, I, l⟩ (.slice qa l.length qc)) := HI7.out.below b8
        have HR8 : Hid (Blk w8 w.heap.size [.int .i64 0, .int .i64 0, .string ⟨#[]⟩, .slice none 0 0] 33) := HI8.out.1
        have HB8 : Hid (Below w.heap.size w w8) := HI8.out.2.2.2.2
        clear b8 x0 x1 x2 x3
        have x0 := HR8.out.cell 0 rfl
        have x1 := HR8.out.cell 1 rfl
        have x2 := HR8.out.cell 2 rfl
        have x3 := HR8.out.cell 3 rfl
        have f0 := HR8.out.frozen 0
        have f1 := HR8.out.frozen 1
        have f2 := HR8.out.frozen 2
        have f3 := HR8.out.frozen 3
        have HZ : Hid (Blk ((((w8.setCell ⟨w.heap.size, 0, none⟩ (.int .i64 0)).setCell ⟨w.heap.size, 1, none⟩ (.int .i64 0)).setCell ⟨w.heap.size, 2, none⟩ (.string ⟨#[]⟩)).setCell ⟨w.heap.size, 3, none⟩ (.slice none 0 0)) w.heap.size [.int .i64 0, .int .i64 0, .string ⟨#[]⟩, .slice none 0 0] 33) := (((HR8.out.set 0 _).set 1 _).set 2 _).set 3 _
        have HBz : Hid (Below w.heap.size w ((((w8.setCell ⟨w.heap.size, 0, none⟩ (.int .i64 0)).setCell ⟨w.heap.size, 1, none⟩ (.int .i64 0)).setCell ⟨w.heap.size, 2, none⟩ (.string ⟨#[]⟩)).setCell ⟨w.heap.size, 3, none⟩ (.slice none 0 0))) := (((HB8.out.setCell (Nat.le_refl _) _).setCell (Nat.le_refl _) _).setCell (Nat.le_refl _) _).setCell (Nat.le_refl _) _
        have HOz : Hid (OwnS ((((w8.setCell ⟨w.heap.size, 0, none⟩ (.int .i64 0)).setCell ⟨w.heap.size, 1, none⟩ (.int .i64 0)).setCell ⟨w.heap.size, 2, none⟩ (.string ⟨#[]⟩)).setCell ⟨w.heap.size, 3, none⟩ (.slice none 0 0)) w.heap.size (.slice none 0 0) []) := OwnS.nil _ _
        go_wp2
        clear x0 x1 x2 x3 f0 f1 f2 f3 
        have y0 := HZ.out.cell 0 rfl
        have y1 := HZ.out.cell 1 rfl
        have y2 := HZ.out.cell 2 rfl
        have y3 := HZ.out.cell 3 rfl
        refine bodyPost_ret (v := .tuple #[.agg #[.int .i64 0, .int .i64 0, .string ⟨#[]⟩, .slice none 0 0], .bool false]) ?_ rfl ?_
        · generalize hW : ((((w8.setCell _ _).setCell _ _).setCell _ _).setCell _ _ : World) = W at *
          clear HZ HBz HOz
          simp [results, Tryd.results13, go_sem, y0, y1, y2, y3]
        · rw [HE.out]; exact ⟨_, rfl, HOz.out, HBz.out⟩
end Go.Proofs.YtbpmjejmeaifbaaDoor
