/- Rows of signatures that a call owns; one more behind them, also as a step of a drawn region. Conditions: none of ours. Draws, as far as the laws of chapter 6 ask: whatever is drawn is of some size; old memory stands but for the cursor. Conditions: a code of at most 2 to the 20 bytes. What spec.l9For makes, as far as the laws ask; old memory stays. Conditions: at most 2 to the 20 numbers. What spec.l7Head draws, as far as the laws ask; old memory stands but for the cursor. Conditions: a code of at most 2 to the 20 bytes. A commit that is being drawn: its block, its row; what keeps both. Conditions: none of ours. What spec.l10Trust and spec.l10At draw, and the cursor; old memory stays but for the cursor. Conditions: a code of at most 2 to the 20 bytes. -/
import Derived.Test.YtajfmjgaaapjeaaGreatDoorG5
import Derived.Test.YtajfmjgaaapjeaaGreatDoorG8
import Derived.Test.YtajfmjgaaapjeaaGreatDoorRw
import Derived.Maps.AppendAt
import Derived.Test.YtajfmjgaaapjeaaGreatDoorHA
import Derived.Test.YtajfmjgaaapjeaaGreatDoorGr
import Derived.Test.YtajfmjgaaapjeaaGreatDoorGA
import Derived.Test.YtajfmjgaaapjeaaGreatDoorHq
import Derived.Test.YtajfmjgaaapjeaaGreatDoorG6
import Derived.Deep.RegionHeldLaw
import Derived.Deep.RegionHeld3
import Derived.Deep.DeepCutAuto
import Derived.Deep.CutBlock
import Derived.Test.YtajfmjgaaapjeaaGreatDoorSho
import Derived.Test.YtajfmjgaaapjeaaGreatDoorHo
import Derived.Test.YtajfmjgaaapjeaaGreatDoorVh
import Derived.Deep.AppendLies
import Derived.Test.YtajfmjgaaapjeaaGreatDoorTr
namespace Go.Proofs.YtajfmjgaaapjeaaGreatDoor
open Go.RowKit
open Num
set_option linter.unusedVariables false
def sgs (l : List Sg) : List Value := l.flatMap sgc
theorem sgs_length : ∀ l : List Sg, (sgs l).length = l.length * 2
  | [] => rfl
  | x :: l => by
    have := sgs_length l
    unfold sgs sgc at *
    simp only [List.flatMap_cons, List.length_append, List.length_cons, List.length_nil, this]; omega
theorem sgs_append (l m : List Sg) : sgs (l ++ m) = sgs l ++ sgs m := by simp [sgs]
theorem sgs_one : ∀ (l : List Sg), ∀ u ∈ sgs l, u.oneCell' = true := by
  intro l u hu
  unfold sgs sgc at hu
  simp only [List.mem_flatMap, List.mem_cons, List.not_mem_nil, or_false] at hu
  obtain ⟨x, _, h⟩ := hu
  rcases h with rfl | rfl <;> rfl
theorem sgs_at : ∀ (l : List Sg) (j : Nat) (hj : j < l.length), (sgs l)[j * 2]? = some (.int .i64 l[j].v) ∧ (sgs l)[j * 2 + 1]? = some (.string l[j].s)
  | x :: l, 0, _ => ⟨rfl, rfl⟩
  | x :: l, j + 1, hj => by
    have := sgs_at l j (by simpa using hj)
    have e : sgs (x :: l) = [.int .i64 x.v, .string x.s] ++ sgs l := by simp [sgs, sgc]
    rw [e, List.getElem?_append_right (by simp; omega), List.getElem?_append_right (by simp; omega)]
    simp only [List.length_cons, List.length_nil, List.getElem_cons_succ]
    rw [show (j + 1) * 2 - (0 + 1 + 1) = j * 2 from by omega, show (j + 1) * 2 + 1 - (0 + 1 + 1) = j * 2 + 1 from by omega]
    exact this
abbrev OwnS (w : World) (B : Nat) (v : Value) (l : List Sg) : Prop := w.ownsRow B 95 2 v l.length (sgs l)
theorem OwnS.o {w : World} {B : Nat} {v : Value} {l : List Sg} (h : OwnS w B v l) : ∃ a cap, v = .slice a l.length cap ∧ SO w a l ∧ l.length ≤ cap ∧ cap ≤ maxLen := by
  have h' := h
  rcases h.2 with ⟨rfl, hn⟩ | ⟨g, cap, cur, rfl, _, hg, hnc, hcm, _⟩
  · exact ⟨none, 0, by rw [hn], .inl hn, by omega, Nat.zero_le _⟩
  · refine ⟨_, cap, rfl, SAt.o fun j hj => ?_, hnc, hcm⟩
    obtain ⟨h1, h2⟩ := sgs_at l j hj
    have q1 := h'.cellAt (j * 2) (by omega)
    have q2 := h'.cellAt (j * 2 + 1) (by omega)
    simp only [Nat.zero_add]
    rw [q1, q2]
    simp [h1, h2]
theorem OwnS.nil (w : World) (B : Nat) : OwnS w B (.slice none 0 0) [] := ⟨rfl, .inl ⟨rfl, rfl⟩⟩
theorem own_snocS {w : World} {B : Nat} {v : Value} {l : List Sg} {x : Sg} (h : w.ownsRow B 95 2 v (l.length + 1) (sgs l ++ sgs [x])) : OwnS w B v (l ++ [x]) := by
  unfold OwnS
  rw [sgs_append, List.length_append]; exact h
theorem one_sg (w : World) (x : Sg) (g : Nat) (hg : g = w.heap.size) : ∀ j u, (sgs [x])[j]? = some u → (w.alloc (.cells #[.int .i64 x.v, .string x.s] 95)).cell? ((⟨g, 0, none⟩ : Addr).add j) = some u := by
  intro j u hj
  subst hg
  rw [add_at, cell_of_row _ _ j #[.int .i64 x.v, .string x.s] 95 (0, 0) (heap_alloc_new _ _)]
  rw [← hj]; simp [sgs, sgc]
theorem infoSf : ∃ i, Tryz.prog.info? 95 = some i ∧ i.zero = some (.agg #[.int .i64 0, .string ⟨#[]⟩]) ∧ i.size = 2 ∧ i.bytes = 24 :=
  info_parts (by kernel_rfl)
/-- append to a row that the call owns, as one step of a region that draws. -/
theorem step_append_row {P : Program} {ops : Array Oper} {o : Oper} {a : Act} {w : World} {K : Act → World → Prop} {Q : Exit → Act → World → Prop} {E : Prop} (hgd : o.guard = none) (s x : Operand) (t : TypeId)
    (ho : o.op = .call { callee := .builtin .append, args := #[s, x], argTypes := #[t, t] })
    (base : Nat) (e : TypeId) (i : TypeInfo) (z : Value) (size bytes : Nat) (ht : P.underlying t = some (.slice e)) (hi : P.info? e = some i) (hz : i.zero = some z)
    (hsize : i.size = size) (hby : i.bytes = bytes) (hzs : z.cells.size = size) (hsz : 0 < size)
    (v : Value) (n : Nat) (xs : List Value) (hs : a.eval s = v) (hown : w.ownsRow base e size v n xs)
    (ad : Addr) (m c : Nat) (news : List Value) (hx : a.eval x = .slice (some ad) m c) (hl : news.length = m * size) (hnews : ∀ j u, news[j]? = some u → w.cell? (ad.add j) = some u) (h1 : ∀ u ∈ news, u.oneCell' = true)
    (h63 : n + m ≤ maxLen) (hbytes : (n + m) * bytes ≤ 140737488355328) (hbase : base ≤ w.heap.size)
    (h : ∀ v' w', w'.ownsRow base e size v' (n + m) (xs ++ news) → w.grownBy w' v.ownBlock → (v'.ownBlock = v.ownBlock ∨ v'.ownBlock = some w.heap.size) → K (a.put o.dst v') w') :
    if Region.wanted o (yielded ops a.tmps) = true then Oper.wp P o a w K Q else E := by
  have hw : Region.wanted o (yielded ops a.tmps) = true := by simp [Region.wanted, hgd]
  rw [if_pos hw]
  obtain ⟨v', w', hr, h2, h3, h4, h5⟩ := run_append_own_at (P := P) w base t o.type e i z size bytes ht hi hz hsize hby hzs hsz v n xs hown ad m c news hl hnews h1 h63 hbytes hbase
  unfold Oper.wp execOp
  simp only [ho, resolve, invoke, builtin, Sem.run_bind, Sem.run_pure, Result.andThen_ok, List.map_toArray, List.map_cons, List.map_nil, hs, hx, hr]
  exact h v' w' h2 h3 h5
/-- A commit that is being read: its block, its row behind it; what lies below stays. -/
def RC (w0 W : World) (G : Nat) (y : Ct) (q : Value) : Prop := Blk W G [.int .i64 y.h, .int .i64 y.r, .string y.i, q] 33 ∧ OwnS W (G + 1) q y.l ∧ Below G w0 W
theorem RC.below {w0 W W' : World} {G : Nat} {y : Ct} {q : Value} (h : RC w0 W G y q) (hb : Below W.heap.size W W') : RC w0 W' G y q :=
  ⟨h.1.below hb h.1.lt, own_keep h.2.1 hb, h.2.2.trans (hb.mono (Nat.le_of_lt h.1.lt))⟩
theorem RC.app {w0 W w1 w4 : World} {G : Nat} {y : Ct} {q v4 : Value} {x : Sg} (h : RC w0 W G y q) (hb : Below W.heap.size W w1) (hg : w1.grownBy w4 q.ownBlock) (ho : w4.ownsRow (G + 1) 95 2 v4 (y.l.length + 1) (sgs y.l ++ sgs [x])) :
    RC w0 (w4.setCell ⟨G, 3, none⟩ v4) G ⟨y.h, y.r, y.i, y.l ++ [x]⟩ v4 := by
  have h1 := h.below hb
  have hl := h.1.lt
  have hG : q.ownBlock ≠ some G := fun e => by have := (h1.2.1.lt _ e).1; omega
  have hB := h1.1.grown hg hG
  refine ⟨hB.set 3 v4, ?_, ?_⟩
  · exact own_snocS (ownsRow_setCell_below ho (Nat.lt_succ_self _) _)
  · exact (h1.2.2.grown hg (Nat.le_of_lt h1.1.lt) (fun j hj => by have := (h1.2.1.lt j hj).1; omega)).setCell (Nat.le_refl _) _
end Go.Proofs.YtajfmjgaaapjeaaGreatDoor
namespace Go.Proofs.YtajfmjgaaapjeaaGreatDoor
open Go.RowKit
open Num
set_option linter.unusedVariables false
theorem own_gr {w w' : World} {B g : Nat} {e : TypeId} {size : Nat} {v : Value} {n : Nat} {xs : List Value} (h : w.ownsRow B e size v n xs) (hg : w.grownBy w' (some g)) (hB : g < B) : w'.ownsRow B e size v n xs := by
  obtain ⟨h1, h2⟩ := h
  refine ⟨h1, ?_⟩
  rcases h2 with h2 | ⟨g', cap, cur, hv, hgB, hh, r⟩
  · exact Or.inl h2
  · exact Or.inr ⟨g', cap, cur, hv, hgB, by rw [hg.block g' ((Array.getElem?_eq_some_iff.1 hh).1) (fun e => by injection e; omega)]; exact hh, r⟩
/-- What is drawn of validators. -/
def Drawn (l : List V) : Prop := l.length ≤ 8 ∧ ∀ v ∈ l, -1 ≤ v.p ∧ v.p ≤ 1001
theorem gr_alloc {a w : World} {r : Option Nat} (h : a.grownBy w r) (o : Obj) : a.grownBy (w.alloc o) r :=
  gr_trans h ⟨rfl, rfl, rfl, by simp, fun k hk _ => Below.heap_alloc w o k hk⟩
set_option maxHeartbeats 800000 in
set_option maxRecDepth 100000 in
theorem some_d (g B : Nat) (w : World) (h : DS w g B) (hB : B ≤ w.heap.size) :
    Calls Tryz.prog 64 #[.pointer (some ⟨g, 0, none⟩)] w fun e w' => ∃ (v : Value) (l : List V), e = .returned v ∧ Hid (OwnV w' w.heap.size v l) ∧ Hid (1 ≤ l.length ∧ l.length ≤ 4 ∧ Drawn l) ∧ Hid (DS w' g B) ∧ Hid (w.grownBy w' (some g)) := by
  obtain ⟨i0, hinf, hz0, hz1, hz2⟩ := info33f
  have hgl := h.lt
  have hgw : g < w.heap.size := by omega
  have hb0 : Below w.heap.size w (w.alloc (.cells #[] 88)) := (Below.refl _ _).alloc (Nat.le_refl _) _
  have HD0 : Hid (DS (w.alloc (.cells #[] 88)) g B) := h.below (hb0.mono hB)
  have HO0 : Hid (OwnV (w.alloc (.cells #[] 88)) w.heap.size (.slice (some ⟨w.heap.size, 0, none⟩) 0 0) []) := World.ownsRow_made w #[] 0 (Nat.le_refl _) (by decide) rfl
  have HG0 : Hid (w.grownBy (w.alloc (.cells #[] 88)) (some g)) := gr_alloc (gr_refl _ _) _
  clear h hb0
  go_enter Tryz.func64, Tryz.ntmps64
  go_wp2_with fail
  refine (below_d g B 4 _ HD0.out (by omega)).mono ?_
  rintro e w1 ⟨x, rfl, hx0, hx1, HD1, HG1⟩
  have HO1 : Hid (OwnV w1 w.heap.size (.slice (some ⟨w.heap.size, 0, none⟩) 0 0) []) := own_gr HO0.out HG1.out hgw
  have HG2 : Hid (w.grownBy w1 (some g)) := gr_trans HG0.out HG1.out
  clear HG1 HO0 HD0 HG0
  obtain ⟨t, ht⟩ : ∃ t : Nat, 1 + x = (t : Int) := ⟨(1 + x).toNat, by omega⟩
  have ht1 : 1 ≤ t := by omega
  have ht4 : t ≤ 4 := by omega
  clear hx0 hx1
  go_wp2
  go_loopw [5, 3, 4] (fun nv ov iv wr => ∃ (m : Nat) (q : Value) (l : List V) (id : Int), nv = .int .i64 m ∧ q = ov ∧ iv = .int .i64 id ∧ l.length + m = t ∧ 0 ≤ id ∧ id ≤ 1 + 2 * (l.length : Int) ∧ Hid (OwnV wr w.heap.size q l) ∧ Hid (∀ v ∈ l, -1 ≤ v.p ∧ v.p ≤ 1001) ∧ Hid (DS wr g B) ∧ Hid (w.grownBy wr (some g))) (fun nv _ _ _ => (intOf nv).toNat)
  case atStart => exact ⟨t, _, [], 1, by first | rfl | rw [ht], rfl, rfl, by simp, by omega, by simp, HO1, fun v hv => by simp at hv, HD1, HG2⟩
  case round =>
    clear HO1 HD1 HG2 w1
    obtain ⟨m, q, l, id, rfl, rfl, rfl, hlm, hid0, hid1, HO, HP, HD, HG⟩ := hrel
    by_cases hm : 0 < m
    · have hmz : (0 : Int) < (m : Int) := by omega
      go_wp2_with fail
      refine (below_d g B 5 _ HD.out (by omega)).mono ?_
      rintro e w2 ⟨y, rfl, hy0, hy1, HD2, HG2⟩
      have HO2 : Hid (OwnV (w2.alloc (.cells #[.int .i64 id, .int .i64 (1 + y)] 88)) w.heap.size q l) := World.ownsRow.alloc (own_gr HO.out HG2.out hgw) _
      have HG3 : Hid (w.grownBy w2 (some g)) := gr_trans HG.out HG2.out
      have hs2 : w.heap.size ≤ w2.heap.size := HG3.out.size
      have HC : Hid (_) := one_val w2 ⟨id, 1 + y⟩ w2.heap.size rfl
      clear HG2
      go_wp2_with (at_builtin; refine wpList_append_own _ rfl _ _ 28 rfl w.heap.size 88 i0 (.agg #[.int .i64 0, .int .i64 0]) 2 16 Tryz.underlying28 hinf hz0 hz1 hz2 rfl (by decide) _ _ _ rfl HO2.out ⟨w2.heap.size, 0, none⟩ 1 1 (vals [⟨id, 1 + y⟩]) rfl rfl HC.out (vals_one _) (by unfold maxLen; omega) (by omega) (by simp; omega) ?_)
      intro v' w3 hown' hgrow _
      have hob : ∀ j, q.ownBlock = some j → w.heap.size ≤ j := fun j hj => (HO.out.lt j hj).1
      have HO3 : Hid (OwnV w3 w.heap.size v' (l ++ [⟨id, 1 + y⟩])) := own_snocV hown'
      have HG4 : Hid (w.grownBy w3 (some g)) := grown_fresh (gr_alloc HG3.out _) hgrow hob
      have HD4 : Hid (DS w3 g B) := HD2.out.below ((((Below.refl _ _).alloc (by omega) _)).grown hgrow (by simp; omega) (fun j hj => by have := hob j hj; omega))
      clear hown' hgrow HC HO2 HG3 HD2 hob
      go_wp2_with fail
      refine (below_d g B 2 _ HD4.out (by omega)).mono ?_
      rintro e w4 ⟨z, rfl, hz0', hz1', HD5, HG5⟩
      have HO5 : Hid (OwnV w4 w.heap.size v' (l ++ [⟨id, 1 + y⟩])) := own_gr HO3.out HG5.out hgw
      have HG6 : Hid (w.grownBy w4 (some g)) := gr_trans HG4.out HG5.out
      clear HO3 HG5 HD4 HG4
      go_wp2
      go_roundw
      case rel =>
        have R : ∃ (m' : Nat) (q' : Value) (l' : List V) (id' : Int), Value.int .i64 ((m : Int) - 1) = .int .i64 m' ∧ q' = v' ∧ Value.int .i64 (id + 1 + z) = .int .i64 id' ∧ l'.length + m' = t ∧ 0 ≤ id' ∧ id' ≤ 1 + 2 * (l'.length : Int) ∧ Hid (OwnV w4 w.heap.size q' l') ∧ Hid (∀ v ∈ l', -1 ≤ v.p ∧ v.p ≤ 1001) ∧ Hid (DS w4 g B) ∧ Hid (w.grownBy w4 (some g)) := by
          refine ⟨m - 1, v', l ++ [⟨id, 1 + y⟩], id + 1 + z, by first | go_num | (congr 1; omega), rfl, rfl, by simp; omega, by omega, by simp; omega, HO5, ?_, HD5, HG6⟩
          intro v hv
          rcases List.mem_append.1 hv with hv | hv
          · exact HP.out v hv
          · simp at hv; subst hv; simp; omega
        first | exact R | ((repeat apply Exists.intro); exact ⟨R, rfl⟩)
      case measure => simp [intOf]; omega
    · have hmz : ¬ (0 : Int) < (m : Int) := by omega
      have HL : Hid (1 ≤ l.length ∧ l.length ≤ 4 ∧ Drawn l) := ⟨by omega, by omega, by omega, HP.out⟩
      go_wp2
      go_ret
      exact ⟨_, rfl, l, HO, HL, HD, HG⟩
theorem vals_set_i : ∀ (l : List V) (k : Nat) (x : Int) (hk : k < l.length), (vals l).set (k * 2) (.int .i64 x) = vals (l.set k ⟨x, l[k].p⟩)
  | v :: l, 0, x, _ => by simp [vals]
  | v :: l, k + 1, x, h => by
    have ih := vals_set_i l k x (by simpa using h)
    have e : ∀ (y : V) (m : List V), vals (y :: m) = .int .i64 y.i :: .int .i64 y.p :: vals m := fun _ _ => rfl
    rw [e, show (k + 1) * 2 = (k * 2) + 1 + 1 from by omega, List.set_cons_succ, List.set_cons_succ, ih]
    rfl
theorem vals_set_p : ∀ (l : List V) (k : Nat) (x : Int) (hk : k < l.length), (vals l).set (k * 2 + 1) (.int .i64 x) = vals (l.set k ⟨l[k].i, x⟩)
  | v :: l, 0, x, _ => by simp [vals]
  | v :: l, k + 1, x, h => by
    have ih := vals_set_p l k x (by simpa using h)
    have e : ∀ (y : V) (m : List V), vals (y :: m) = .int .i64 y.i :: .int .i64 y.p :: vals m := fun _ _ => rfl
    rw [e, show (k + 1) * 2 + 1 = (k * 2 + 1) + 1 + 1 from by omega, List.set_cons_succ, List.set_cons_succ, ih]
    rfl
/-- One cell of a row that the call owns is written. -/
theorem own_put {w : World} {B g n cap j : Nat} {xs : List Value} {u : Value} (h : w.ownsRow B 88 2 (.slice (some ⟨g, 0, none⟩) n cap) n xs) (hj : j < n * 2) : (w.setCell ⟨g, j, none⟩ u).ownsRow B 88 2 (.slice (some ⟨g, 0, none⟩) n cap) n (xs.set j u) := by
  obtain ⟨h1, h2⟩ := h
  refine ⟨by rw [List.length_set]; exact h1, ?_⟩
  rcases h2 with ⟨h2, _⟩ | ⟨g', cap', cur, hv, hgB, hh, h3, h4, h5, h6⟩
  · cases h2
  · simp only [Value.slice.injEq, Option.some.injEq, Addr.mk.injEq, and_true, true_and] at hv
    obtain ⟨rfl, rfl⟩ := hv
    refine Or.inr ⟨g, cap, cur.setIfInBounds j u, rfl, hgB, ?_, h3, h4, by rw [Array.size_setIfInBounds]; exact h5, ?_⟩
    · rw [heap_setCell_same w g j _ 88 _ hh]
    · rw [Array.toList_setIfInBounds, List.take_set, h6]
theorem own_seti {w : World} {B g cap k : Nat} {l : List V} {x : Int} (h : OwnV w B (.slice (some ⟨g, 0, none⟩) l.length cap) l) (hk : k < l.length) : OwnV (w.setCell ⟨g, k * 2, none⟩ (.int .i64 x)) B (.slice (some ⟨g, 0, none⟩) l.length cap) (l.set k ⟨x, l[k].p⟩) := by
  have := own_put (u := .int .i64 x) h (show k * 2 < l.length * 2 by omega)
  rw [vals_set_i l k x hk] at this
  unfold OwnV
  rw [List.length_set]; exact this
theorem own_setp {w : World} {B g cap k : Nat} {l : List V} {x : Int} (h : OwnV w B (.slice (some ⟨g, 0, none⟩) l.length cap) l) (hk : k < l.length) : OwnV (w.setCell ⟨g, k * 2 + 1, none⟩ (.int .i64 x)) B (.slice (some ⟨g, 0, none⟩) l.length cap) (l.set k ⟨l[k].i, x⟩) := by
  have := own_put (u := .int .i64 x) h (show k * 2 + 1 < l.length * 2 by omega)
  rw [vals_set_p l k x hk] at this
  unfold OwnV
  rw [List.length_set]; exact this
theorem OwnV.row {w : World} {B : Nat} {v : Value} {l : List V} (h : OwnV w B v l) (h0 : 0 < l.length) : ∃ g cap, v = .slice (some ⟨g, 0, none⟩) l.length cap ∧ B ≤ g ∧ (∀ j, j < l.length * 2 → (w.cell? ⟨g, j, none⟩).isSome = true ∧ w.frozen? ⟨g, j, none⟩ = false) := by
  have h' := h
  rcases h.2 with ⟨rfl, hn⟩ | ⟨g, cap, cur, rfl, hB, hg, hnc, hcm, _⟩
  · omega
  · refine ⟨g, cap, rfl, hB, fun j hj => ⟨?_, h'.frozenAt j⟩⟩
    rw [h'.cellAt j (by omega), List.getElem?_eq_getElem (by rw [vals_length]; exact hj)]; rfl
theorem drawn_set {l : List V} {k : Nat} {v : V} (h : Drawn l) (hv : -1 ≤ v.p ∧ v.p ≤ 1001) : Drawn (l.set k v) := by
  refine ⟨by rw [List.length_set]; exact h.1, fun x hx => ?_⟩
  rcases List.mem_or_eq_of_mem_set hx with hx | hx
  · exact h.2 x hx
  · rw [hx]; exact hv
theorem gr_setnew {a w : World} {g b j : Nat} (h : a.grownBy w (some g)) (hb : a.heap.size ≤ b) (u : Value) : a.grownBy (w.setCell ⟨b, j, none⟩ u) (some g) :=
  grown_fresh h (gr_set w b j u) (fun k e => by injection e with e; omega)
theorem nn_of {w : World} {B : Nat} {v : Value} {l : List V} (h : OwnV w B v l) (h0 : 1 ≤ l.length) : ¬ v = Value.slice none 0 0 := by
  obtain ⟨g, cap, rfl, _⟩ := OwnV.row h h0
  intro e; cases e
end Go.Proofs.YtajfmjgaaapjeaaGreatDoor
namespace Go.Proofs.YtajfmjgaaapjeaaGreatDoor
open Go.RowKit
open Num
set_option linter.unusedVariables false
def cQ9 (y : Ct) (q : Value) : Value := .agg #[.int .i64 y.h, .int .i64 y.r, .string y.i, q]
theorem own_setT {w : World} {B B' g j : Nat} {u v : Value} {l : List Sg} (h : OwnS w B v l) (hB : B' ≤ B) (hg : g < B) : OwnS (w.setCell ⟨g, j, none⟩ u) B' v l := own_less (ownsRow_setCell_below h hg _) hB
/-- Numbers where a slice says, if any. -/
def Nms (w : World) (a : Option Addr) (l : List Int) : Prop := l.length = 0 ∨ ∃ b o, a = some ⟨b, o, none⟩ ∧ IAt w b o l
set_option maxHeartbeats 3200000 in
set_option maxRecDepth 100000 in
theorem for_d (y : H) (rd : Int) (a : Option Addr) (cap : Nat) (ids : List Int) (w : World) (hi : Nms w a ids) (hlen : ids.length ≤ 1048576) :
    Calls Tryz.prog 66 #[hV y, .int .i64 rd, .slice a ids.length cap] w fun e w' => ∃ (l : List Sg) (q : Value), e = .returned (cQ9 ⟨y.h, rd, headI y, l⟩ q) ∧ Hid (l.length = ids.length ∧ ∀ z ∈ l, z.s.size ≤ 8) ∧ Hid (OwnS w' w.heap.size q l) ∧ Hid (Below w.heap.size w w') := by
  obtain ⟨i0, hinf, hz0, hz1, hz2⟩ := infoSf
  have HI : Hid (Nms w a ids) := hi
  clear hi
  obtain ⟨w0, hw0⟩ : ∃ W, (w.alloc (.cells (hcs y).toList.toArray 27)).alloc (.cells [.int .i64 0, .int .i64 0, .string ⟨#[]⟩, .slice none 0 0].toArray 33) = W := ⟨_, rfl⟩
  have HH : Hid (Blk w0 w.heap.size (hcs y).toList 27) := by rw [← hw0]; exact (blk_new w _ _).alloc _
  have HR : Hid (Blk w0 (w.heap.size + 1) [.int .i64 0, .int .i64 0, .string ⟨#[]⟩, .slice none 0 0] 33) := by
    rw [← hw0]
    have h := blk_new (w.alloc (.cells (hcs y).toList.toArray 27)) [.int .i64 0, .int .i64 0, .string ⟨#[]⟩, .slice none 0 0] 33
    rw [show (w.alloc (.cells (hcs y).toList.toArray 27)).heap.size = w.heap.size + 1 by simp] at h; exact h
  have HB : Hid (Below w.heap.size w w0) := by rw [← hw0]; exact below_two _ _ _
  have kH := fun W => spec_headid y W
  generalize headI y = I at *
  obtain ⟨h, t, ya, yv, yn, yd⟩ := y
  unfold hV at *
  unfold hcs at *
  simp only at hw0 HH kH ⊢
  have x0 := HH.out.cell 0 rfl
  have x1 := HH.out.cell 1 rfl
  have x2 := HH.out.cell 2 rfl
  have x3 := HH.out.cell 3 rfl
  have x4 := HH.out.cell 4 rfl
  have x5 := HH.out.cell 5 rfl
  go_enter Tryz.func66, Tryz.ntmps66
  go_upto_region 1 with fail
  go_cut [7] (fun s wx => ∃ wq : World, s = .pointer (some ⟨wq.heap.size, 0, none⟩) ∧ Hid (w.heap.size + 1 < wq.heap.size) ∧ Hid (Below w.heap.size w wq) ∧ Hid (Blk wq (w.heap.size + 1) [.int .i64 0, .int .i64 0, .string ⟨#[]⟩, .slice none 0 0] 33) ∧ Hid (RC wq wx wq.heap.size ⟨h, rd, I, []⟩ (.slice none 0 0)))
  case first =>
    have hw01 : w.heap.size + 1 < w0.heap.size := HR.out.lt
    go_wp2_with fail
    refine wp_region_held_drew (S := (fun W : World => W.cell? ⟨w.heap.size, 0, none⟩ = some (.int .i64 h) ∧ W.cell? ⟨w.heap.size, 1, none⟩ = some (.int .i64 t) ∧ W.cell? ⟨w.heap.size, 2, none⟩ = some (.string ya) ∧ W.cell? ⟨w.heap.size, 3, none⟩ = some (.string yv) ∧ W.cell? ⟨w.heap.size, 4, none⟩ = some (.string yn) ∧ W.cell? ⟨w.heap.size, 5, none⟩ = some (.string yd))) (by kernel_rfl) ?_ (fun hHeld => ?_)
    · exact ⟨x0, x1, x2, x3, x4, x5⟩
    refine wpAnyH_take (i := 0) (oi := { dst := Option.some 9, op := Go.Op.fieldAddr 27 (Go.Operand.tmp 3) 0, type := 0, pos := "l09_commit.go:75", after := #[], guard := Option.none }) (v := ?_) rfl (by kernel_rfl) (by kernel_rfl) (by kernel_rfl) (fun _ _ _ h => h) (Or.inl ⟨by rfl, ?_⟩) hHeld ?_
    rotate_left
    · intro w hSw
      try dsimp only at hSw
      go_simp
      try (with_reducible rfl)
    simp only [Act.put, List.setIfInBounds_toArray, List.set_cons_zero, List.set_cons_succ]
    refine wpAnyH_take (i := 1) (oi := { dst := Option.some 10, op := Go.Op.load 3 (Go.Operand.tmp 9), type := 3, pos := "l09_commit.go:75", after := #[{ on := 0, ground := Go.Ground.data }], guard := Option.none }) (v := ?_) rfl (by kernel_rfl) (by kernel_rfl) (by kernel_rfl) (fun _ _ _ h => h) (Or.inl ⟨by rfl, ?_⟩) hHeld ?_
    rotate_left
    · intro w hSw
      try dsimp only at hSw
      go_simp
      try (with_reducible rfl)
    simp only [Act.put, List.setIfInBounds_toArray, List.set_cons_zero, List.set_cons_succ]
    refine wpAnyH_take (i := 2) (oi := { dst := Option.some 11, op := Go.Op.move (Go.Operand.tmp 1), type := 3, pos := "l09_commit.go:75", after := #[], guard := Option.none }) (v := ?_) rfl (by kernel_rfl) (by kernel_rfl) (by kernel_rfl) (fun _ _ _ h => h) (Or.inl ⟨by rfl, ?_⟩) hHeld ?_
    rotate_left
    · intro w hSw
      try dsimp only at hSw
      go_simp
      try (with_reducible rfl)
    simp only [Act.put, List.setIfInBounds_toArray, List.set_cons_zero, List.set_cons_succ]
    refine wpAnyH_take (i := 3) (oi := { dst := Option.some 12, op := Go.Op.load 27 (Go.Operand.tmp 3), type := 27, pos := "l09_commit.go:75", after := #[], guard := Option.none }) (v := ?_) rfl (by kernel_rfl) (by kernel_rfl) (by kernel_rfl) (fun _ _ _ h => h) (Or.inl ⟨by rfl, ?_⟩) hHeld ?_
    rotate_left
    · intro w hSw
      try dsimp only at hSw
      go_simp
      try (with_reducible rfl)
    simp only [Act.put, List.setIfInBounds_toArray, List.set_cons_zero, List.set_cons_succ]
    refine wpAnyH_ready (rs := [4, 6]) (by kernel_rfl) (by decide) ?_
    refine AllReadyH.cons (o := { dst := Option.some 13, op := Go.Op.call { callee := Go.Callee.value (Go.Operand.func 11), args := #[Go.Operand.tmp 12], argTypes := #[27] }, type := 9, pos := "l09_commit.go:75", after := #[{ on := 3, ground := Go.Ground.data }], guard := Option.none }) rfl (fun K hK => ?_) (AllReadyH.cons (o := { dst := Option.some 7, op := Go.Op.alloc 33, type := 0, pos := "l09_commit.go:75", after := #[], guard := Option.none }) rfl (fun K hK => ?_) AllReadyH.nil)
    · go_simp
      go_at_call 11
      refine (kH _).mono ?_
      rintro e w1 ⟨rfl, b1⟩
      have HD1 : Hid (Below w0.heap.size w0 w1) := (Below.refl _ _).drew.trans b1
      have HH1 : Hid (Blk w1 w.heap.size [.int .i64 h, .int .i64 t, .string ya, .string yv, .string yn, .string yd] 27) := HH.out.below HD1.out HH.out.lt
      clear b1
      refine hK.out _ _ ⟨HH1.out.cell 0 rfl, HH1.out.cell 1 rfl, HH1.out.cell 2 rfl, HH1.out.cell 3 rfl, HH1.out.cell 4 rfl, HH1.out.cell 5 rfl⟩ (fun hHeld => ?_)
      clear hK K
      refine wpAnyH_take (i := 5) (oi := { dst := Option.some 14, op := Go.Op.build 33 #[(0, Go.Operand.tmp 10), (1, Go.Operand.tmp 11), (2, Go.Operand.tmp 13)], type := 33, pos := "l09_commit.go:75", after := #[{ on := 1, ground := Go.Ground.data }, { on := 2, ground := Go.Ground.data }, { on := 4, ground := Go.Ground.data }], guard := Option.none }) (v := ?_) rfl (by kernel_rfl) (by kernel_rfl) (by kernel_rfl) (fun _ _ _ h => h) (Or.inl ⟨by rfl, ?_⟩) hHeld ?_
      rotate_left
      · intro w hSw
        try dsimp only at hSw
        go_simp
        try (with_reducible rfl)
      simp only [Act.put, List.setIfInBounds_toArray, List.set_cons_zero, List.set_cons_succ]
      refine wpAnyH_ready (rs := [6]) (by kernel_rfl) (by decide) ?_
      refine AllReadyH.cons (o := { dst := Option.some 7, op := Go.Op.alloc 33, type := 0, pos := "l09_commit.go:75", after := #[], guard := Option.none }) rfl (fun K hK => ?_) AllReadyH.nil
      go_simp
      refine hK.out _ _ ⟨(HH1.out.alloc _).cell 0 rfl, (HH1.out.alloc _).cell 1 rfl, (HH1.out.alloc _).cell 2 rfl, (HH1.out.alloc _).cell 3 rfl, (HH1.out.alloc _).cell 4 rfl, (HH1.out.alloc _).cell 5 rfl⟩ (fun hHeld => ?_)
      clear hK K
      have HG1 : Hid (Blk (w1.alloc (.cells ([.int .i64 0, .int .i64 0, .string ⟨#[]⟩, .slice none 0 0] : List Value).toArray 33)) w1.heap.size [.int .i64 0, .int .i64 0, .string ⟨#[]⟩, .slice none 0 0] 33) := blk_new w1 _ _
      have y0 := HG1.out.cell 0 rfl
      have y1 := HG1.out.cell 1 rfl
      have y2 := HG1.out.cell 2 rfl
      have y3 := HG1.out.cell 3 rfl
      have f0 := HG1.out.frozen 0
      have f1 := HG1.out.frozen 1
      have f2 := HG1.out.frozen 2
      have f3 := HG1.out.frozen 3
      refine wpAnyH_ready (rs := [7]) (by kernel_rfl) (by decide) ?_
      refine AllReadyH.cons (o := { dst := Option.none, op := Go.Op.store 33 (Go.Operand.tmp 7) (Go.Operand.tmp 14), type := 0, pos := "l09_commit.go:75", after := #[{ on := 6, ground := Go.Ground.data }, { on := 5, ground := Go.Ground.data }, { on := 4, ground := Go.Ground.chain }, { on := 0, ground := Go.Ground.phase }, { on := 1, ground := Go.Ground.phase }, { on := 2, ground := Go.Ground.phase }, { on := 3, ground := Go.Ground.phase }, { on := 4, ground := Go.Ground.phase }, { on := 5, ground := Go.Ground.phase }, { on := 6, ground := Go.Ground.phase }], guard := Option.none }) rfl (fun K hK => ?_) AllReadyH.nil
      go_simp
      refine hK.out _ _ ⟨(HH1.out.alloc _).cell 0 rfl, (HH1.out.alloc _).cell 1 rfl, (HH1.out.alloc _).cell 2 rfl, (HH1.out.alloc _).cell 3 rfl, (HH1.out.alloc _).cell 4 rfl, (HH1.out.alloc _).cell 5 rfl⟩ (fun hHeld => ?_)
      clear hK K
      have HB1 : Hid (Below w.heap.size w w1) := HB.out.trans (HD1.out.mono HB.out.size)
      have HR1 : Hid (Blk w1 (w.heap.size + 1) [.int .i64 0, .int .i64 0, .string ⟨#[]⟩, .slice none 0 0] 33) := HR.out.below HD1.out HR.out.lt
      have HY0 : Hid (RC w1 (w1.alloc (.cells #[.int .i64 h, .int .i64 rd, .string I, .slice none 0 0] 33)) w1.heap.size ⟨h, rd, I, []⟩ (.slice none 0 0)) := ⟨blk_new w1 _ _, OwnS.nil _ _, below_one _ _⟩
      have hs1 : Hid (w.heap.size + 1 < w1.heap.size) := HR1.out.lt
      refine wpAnyH_done (by kernel_rfl) ?_ _
      go_wp2_with fail
      go_meet
      exact ⟨w1, rfl, hs1, HB1, HR1, HY0⟩
    · go_simp
      refine hK.out _ _ ⟨(HH.out.alloc _).cell 0 rfl, (HH.out.alloc _).cell 1 rfl, (HH.out.alloc _).cell 2 rfl, (HH.out.alloc _).cell 3 rfl, (HH.out.alloc _).cell 4 rfl, (HH.out.alloc _).cell 5 rfl⟩ (fun hHeld => ?_)
      clear hK K
      have HG0 : Hid (Blk (w0.alloc (.cells ([.int .i64 0, .int .i64 0, .string ⟨#[]⟩, .slice none 0 0] : List Value).toArray 33)) w0.heap.size [.int .i64 0, .int .i64 0, .string ⟨#[]⟩, .slice none 0 0] 33) := blk_new w0 _ _
      have HHa : Hid (Blk (w0.alloc (.cells ([.int .i64 0, .int .i64 0, .string ⟨#[]⟩, .slice none 0 0] : List Value).toArray 33)) w.heap.size [.int .i64 h, .int .i64 t, .string ya, .string yv, .string yn, .string yd] 27) := HH.out.alloc _
      refine wpAnyH_ready (rs := [4]) (by kernel_rfl) (by decide) ?_
      refine AllReadyH.cons (o := { dst := Option.some 13, op := Go.Op.call { callee := Go.Callee.value (Go.Operand.func 11), args := #[Go.Operand.tmp 12], argTypes := #[27] }, type := 9, pos := "l09_commit.go:75", after := #[{ on := 3, ground := Go.Ground.data }], guard := Option.none }) rfl (fun K hK => ?_) AllReadyH.nil
      go_simp
      go_at_call 11
      refine (kH _).mono ?_
      rintro e w1 ⟨rfl, b1⟩
      have HD2 : Hid (Below w0.heap.size w0 w1) := ((below_one w0 (.cells #[.int .i64 0, .int .i64 0, .string ⟨#[]⟩, .slice none 0 0] 33)).drew).trans (b1.mono (by simp))
      have HH1 : Hid (Blk w1 w.heap.size [.int .i64 h, .int .i64 t, .string ya, .string yv, .string yn, .string yd] 27) := HH.out.below HD2.out HH.out.lt
      have HG1 : Hid (Blk w1 w0.heap.size [.int .i64 0, .int .i64 0, .string ⟨#[]⟩, .slice none 0 0] 33) := Blk.below (W := (w0.alloc (.cells #[.int .i64 0, .int .i64 0, .string ⟨#[]⟩, .slice none 0 0] 33)).drew) (blk_new w0 _ _) b1 (by simp)
      clear b1
      refine hK.out _ _ ⟨HH1.out.cell 0 rfl, HH1.out.cell 1 rfl, HH1.out.cell 2 rfl, HH1.out.cell 3 rfl, HH1.out.cell 4 rfl, HH1.out.cell 5 rfl⟩ (fun hHeld => ?_)
      clear hK K
      refine wpAnyH_take (i := 5) (oi := { dst := Option.some 14, op := Go.Op.build 33 #[(0, Go.Operand.tmp 10), (1, Go.Operand.tmp 11), (2, Go.Operand.tmp 13)], type := 33, pos := "l09_commit.go:75", after := #[{ on := 1, ground := Go.Ground.data }, { on := 2, ground := Go.Ground.data }, { on := 4, ground := Go.Ground.data }], guard := Option.none }) (v := ?_) rfl (by kernel_rfl) (by kernel_rfl) (by kernel_rfl) (fun _ _ _ h => h) (Or.inl ⟨by rfl, ?_⟩) hHeld ?_
      rotate_left
      · intro w hSw
        try dsimp only at hSw
        go_simp
        try (with_reducible rfl)
      simp only [Act.put, List.setIfInBounds_toArray, List.set_cons_zero, List.set_cons_succ]
      have y0 := HG1.out.cell 0 rfl
      have y1 := HG1.out.cell 1 rfl
      have y2 := HG1.out.cell 2 rfl
      have y3 := HG1.out.cell 3 rfl
      have f0 := HG1.out.frozen 0
      have f1 := HG1.out.frozen 1
      have f2 := HG1.out.frozen 2
      have f3 := HG1.out.frozen 3
      have HH2 := (((HH1.out.other 0 (.int .i64 h) (show w.heap.size ≠ w0.heap.size by omega)).other 1 (.int .i64 rd) (show w.heap.size ≠ w0.heap.size by omega)).other 2 (.string I) (show w.heap.size ≠ w0.heap.size by omega)).other 3 (.slice none 0 0) (show w.heap.size ≠ w0.heap.size by omega)
      refine wpAnyH_ready (rs := [7]) (by kernel_rfl) (by decide) ?_
      refine AllReadyH.cons (o := { dst := Option.none, op := Go.Op.store 33 (Go.Operand.tmp 7) (Go.Operand.tmp 14), type := 0, pos := "l09_commit.go:75", after := #[{ on := 6, ground := Go.Ground.data }, { on := 5, ground := Go.Ground.data }, { on := 4, ground := Go.Ground.chain }, { on := 0, ground := Go.Ground.phase }, { on := 1, ground := Go.Ground.phase }, { on := 2, ground := Go.Ground.phase }, { on := 3, ground := Go.Ground.phase }, { on := 4, ground := Go.Ground.phase }, { on := 5, ground := Go.Ground.phase }, { on := 6, ground := Go.Ground.phase }], guard := Option.none }) rfl (fun K hK => ?_) AllReadyH.nil
      go_simp
      refine hK.out _ _ ⟨HH2.cell 0 rfl, HH2.cell 1 rfl, HH2.cell 2 rfl, HH2.cell 3 rfl, HH2.cell 4 rfl, HH2.cell 5 rfl⟩ (fun hHeld => ?_)
      clear hK K HH2
      have hw01h : Hid (w.heap.size + 1 < w0.heap.size) := hw01
      have HY0 : Hid (RC w0 ((((w1.setCell ⟨w0.heap.size, 0, none⟩ (.int .i64 h)).setCell ⟨w0.heap.size, 1, none⟩ (.int .i64 rd)).setCell ⟨w0.heap.size, 2, none⟩ (.string I)).setCell ⟨w0.heap.size, 3, none⟩ (.slice none 0 0)) w0.heap.size ⟨h, rd, I, []⟩ (.slice none 0 0)) := ⟨(((HG1.out.set 0 _).set 1 _).set 2 _).set 3 _, OwnS.nil _ _, (((HD2.out.setCell (Nat.le_refl _) _).setCell (Nat.le_refl _) _).setCell (Nat.le_refl _) _).setCell (Nat.le_refl _) _⟩
      refine wpAnyH_done (by kernel_rfl) ?_ _
      go_wp2_with fail
      go_meet
      exact ⟨w0, rfl, hw01h, HB, HR, HY0⟩
  case rest =>
    rename World => w2
    obtain ⟨w1, rfl, HW1, HB1, HR1, HY0⟩ := hcut
    have hww1 := HW1.out
    clear hw0 x0 x1 x2 x3 x4 x5 HH HR HB kH HW1
    go_wp2
    go_loopw [8] (fun iv wr => ∃ (k : Nat) (l : List Sg) (q : Value), k ≤ ids.length ∧ iv = .int .i64 k ∧ Hid (l.length = k ∧ ∀ z ∈ l, z.s.size ≤ 8) ∧ Hid (RC w1 wr w1.heap.size ⟨h, rd, I, l⟩ q)) (fun iv _ => ids.length - (intOf iv).toNat)
    case atStart => exact ⟨0, [], _, Nat.zero_le _, rfl, ⟨rfl, fun z hz => by cases hz⟩, HY0⟩
    case round =>
      obtain ⟨k, l, q, hk, rfl, HLn, HY⟩ := hrel
      clear HY0
      by_cases hlt : k < ids.length
      · have hltz : (k : Int) < (ids.length : Int) := by omega
        rcases HI.out with h0 | ⟨b, o, rfl, hv0⟩
        · omega
        obtain ⟨qa, qc, rfl⟩ := own_shape HY.out.2.1
        have hbw : b < w.heap.size := World.block_lt_of_cell? w _ (hv0 k hlt)
        have c0 := (HB1.out.cell (p := ⟨b, o + k, none⟩) hbw).trans (hv0 k hlt)
        have hb1 : b < w1.heap.size := by omega
        have HC : Hid (w1.cell? ⟨b, o + k, none⟩ = some (.int .i64 ids[k])) := c0
        have HCk : Hid (∀ W, Below w1.heap.size w1 W → W.cell? ⟨b, o + k, none⟩ = some (.int .i64 ids[k])) := fun W hW => (hW.cell (p := ⟨b, o + k, none⟩) hb1).trans HC.out
        clear c0 HC hv0
        generalize ids[k] = z at *
        have k9 := fun (u : Option Addr) (c : Nat) W => spec_l9v ⟨h, rd, I, l⟩ u c z W
        have kD := fun W => spec_dig ⟨h, rd, 2, I, z⟩ W
        have hds := dig_size ⟨h, rd, 2, I, z⟩
        have kG := fun W => spec_sgn z (dig ⟨h, rd, 2, I, z⟩) W (by omega)
        have hgs := sgn_size z (dig ⟨h, rd, 2, I, z⟩)
        generalize sgn z (dig ⟨h, rd, 2, I, z⟩) = S at *
        generalize dig ⟨h, rd, 2, I, z⟩ = G at *
        unfold cV tV at *
        simp only at k9 kD HY
        have hll : l.length ≤ 1048576 := by have := HLn.out.1; omega
        have HYd : Hid (RC w1 wr.drew w1.heap.size ⟨h, rd, I, l⟩ (.slice qa l.length qc)) := HY.out.below (Below.refl _ _).drew
        have sd := HCk.out _ HYd.out.2.2
        have x0 := HY.out.1.cell 0 rfl
        have x1 := HY.out.1.cell 1 rfl
        have x2 := HY.out.1.cell 2 rfl
        have x3 := HY.out.1.cell 3 rfl
        have f3 := HY.out.1.frozen 3
        clear hds
        go_wp2_with fail
        refine wp_region_held_drew (S := (fun W : World => W.cell? ⟨b, o + k, none⟩ = some (.int .i64 z))) (by kernel_rfl) ?_ (fun hHeld => ?_)
        · exact sd
        refine wpAnyH_take (i := 0) (oi := { dst := Option.some 21, op := Go.Op.fieldAddr 33 (Go.Operand.tmp 7) 3, type := 0, pos := "l09_commit.go:77", after := #[], guard := Option.none }) (v := ?_) rfl (by kernel_rfl) (by kernel_rfl) (by kernel_rfl) (fun _ _ _ h => h) (Or.inl ⟨by rfl, ?_⟩) hHeld ?_
        rotate_left
        · intro w hSw
          try dsimp only at hSw
          go_simp
          try (with_reducible rfl)
        simp only [Act.put, List.setIfInBounds_toArray, List.set_cons_zero, List.set_cons_succ]
        refine wpAnyH_take (i := 2) (oi := { dst := Option.some 23, op := Go.Op.move (Go.Operand.tmp 2), type := 42, pos := "l09_commit.go:77", after := #[], guard := Option.none }) (v := ?_) rfl (by kernel_rfl) (by kernel_rfl) (by kernel_rfl) (fun _ _ _ h => h) (Or.inl ⟨by rfl, ?_⟩) hHeld ?_
        rotate_left
        · intro w hSw
          try dsimp only at hSw
          go_simp
          try (with_reducible rfl)
        simp only [Act.put, List.setIfInBounds_toArray, List.set_cons_zero, List.set_cons_succ]
        refine wpAnyH_take (i := 3) (oi := { dst := Option.some 24, op := Go.Op.move (Go.Operand.tmp 8), type := 3, pos := "l09_commit.go:77", after := #[], guard := Option.none }) (v := ?_) rfl (by kernel_rfl) (by kernel_rfl) (by kernel_rfl) (fun _ _ _ h => h) (Or.inl ⟨by rfl, ?_⟩) hHeld ?_
        rotate_left
        · intro w hSw
          try dsimp only at hSw
          go_simp
          try (with_reducible rfl)
        simp only [Act.put, List.setIfInBounds_toArray, List.set_cons_zero, List.set_cons_succ]
        refine wpAnyH_take (i := 4) (oi := { dst := Option.some 25, op := Go.Op.indexAddr 42 (Go.Operand.tmp 23) (Go.Operand.tmp 24), type := 0, pos := "l09_commit.go:77", after := #[{ on := 2, ground := Go.Ground.data }, { on := 3, ground := Go.Ground.data }], guard := Option.none }) (v := ?_) rfl (by kernel_rfl) (by kernel_rfl) (by kernel_rfl) (fun _ _ _ h => h) (Or.inl ⟨by rfl, ?_⟩) hHeld ?_
        rotate_left
        · intro w hSw
          try dsimp only at hSw
          go_simp
          try (with_reducible rfl)
        simp only [Act.put, List.setIfInBounds_toArray, List.set_cons_zero, List.set_cons_succ]
        refine wpAnyH_take (i := 5) (oi := { dst := Option.some 26, op := Go.Op.load 3 (Go.Operand.tmp 25), type := 3, pos := "l09_commit.go:77", after := #[{ on := 4, ground := Go.Ground.data }], guard := Option.none }) (v := ?_) rfl (by kernel_rfl) (by kernel_rfl) (by kernel_rfl) (fun _ _ _ h => h) (Or.inl ⟨by rfl, ?_⟩) hHeld ?_
        rotate_left
        · intro w hSw
          try dsimp only at hSw
          go_simp
          try (with_reducible rfl)
        simp only [Act.put, List.setIfInBounds_toArray, List.set_cons_zero, List.set_cons_succ]
        refine wpAnyH_take (i := 6) (oi := { dst := Option.some 27, op := Go.Op.move (Go.Operand.tmp 2), type := 42, pos := "l09_commit.go:77", after := #[], guard := Option.none }) (v := ?_) rfl (by kernel_rfl) (by kernel_rfl) (by kernel_rfl) (fun _ _ _ h => h) (Or.inl ⟨by rfl, ?_⟩) hHeld ?_
        rotate_left
        · intro w hSw
          try dsimp only at hSw
          go_simp
          try (with_reducible rfl)
        simp only [Act.put, List.setIfInBounds_toArray, List.set_cons_zero, List.set_cons_succ]
        refine wpAnyH_take (i := 7) (oi := { dst := Option.some 28, op := Go.Op.move (Go.Operand.tmp 8), type := 3, pos := "l09_commit.go:77", after := #[], guard := Option.none }) (v := ?_) rfl (by kernel_rfl) (by kernel_rfl) (by kernel_rfl) (fun _ _ _ h => h) (Or.inl ⟨by rfl, ?_⟩) hHeld ?_
        rotate_left
        · intro w hSw
          try dsimp only at hSw
          go_simp
          try (with_reducible rfl)
        simp only [Act.put, List.setIfInBounds_toArray, List.set_cons_zero, List.set_cons_succ]
        refine wpAnyH_take (i := 8) (oi := { dst := Option.some 29, op := Go.Op.indexAddr 42 (Go.Operand.tmp 27) (Go.Operand.tmp 28), type := 0, pos := "l09_commit.go:77", after := #[{ on := 6, ground := Go.Ground.data }, { on := 7, ground := Go.Ground.data }], guard := Option.none }) (v := ?_) rfl (by kernel_rfl) (by kernel_rfl) (by kernel_rfl) (fun _ _ _ h => h) (Or.inl ⟨by rfl, ?_⟩) hHeld ?_
        rotate_left
        · intro w hSw
          try dsimp only at hSw
          go_simp
          try (with_reducible rfl)
        simp only [Act.put, List.setIfInBounds_toArray, List.set_cons_zero, List.set_cons_succ]
        refine wpAnyH_take (i := 9) (oi := { dst := Option.some 30, op := Go.Op.load 3 (Go.Operand.tmp 29), type := 3, pos := "l09_commit.go:77", after := #[{ on := 8, ground := Go.Ground.data }], guard := Option.none }) (v := ?_) rfl (by kernel_rfl) (by kernel_rfl) (by kernel_rfl) (fun _ _ _ h => h) (Or.inl ⟨by rfl, ?_⟩) hHeld ?_
        rotate_left
        · intro w hSw
          try dsimp only at hSw
          go_simp
          try (with_reducible rfl)
        simp only [Act.put, List.setIfInBounds_toArray, List.set_cons_zero, List.set_cons_succ]
        refine wpAnyH_take (i := 11) (oi := { dst := Option.some 32, op := Go.Op.move (Go.Operand.tmp 2), type := 42, pos := "l09_commit.go:77", after := #[], guard := Option.none }) (v := ?_) rfl (by kernel_rfl) (by kernel_rfl) (by kernel_rfl) (fun _ _ _ h => h) (Or.inl ⟨by rfl, ?_⟩) hHeld ?_
        rotate_left
        · intro w hSw
          try dsimp only at hSw
          go_simp
          try (with_reducible rfl)
        simp only [Act.put, List.setIfInBounds_toArray, List.set_cons_zero, List.set_cons_succ]
        refine wpAnyH_take (i := 12) (oi := { dst := Option.some 33, op := Go.Op.move (Go.Operand.tmp 8), type := 3, pos := "l09_commit.go:77", after := #[], guard := Option.none }) (v := ?_) rfl (by kernel_rfl) (by kernel_rfl) (by kernel_rfl) (fun _ _ _ h => h) (Or.inl ⟨by rfl, ?_⟩) hHeld ?_
        rotate_left
        · intro w hSw
          try dsimp only at hSw
          go_simp
          try (with_reducible rfl)
        simp only [Act.put, List.setIfInBounds_toArray, List.set_cons_zero, List.set_cons_succ]
        refine wpAnyH_take (i := 13) (oi := { dst := Option.some 34, op := Go.Op.indexAddr 42 (Go.Operand.tmp 32) (Go.Operand.tmp 33), type := 0, pos := "l09_commit.go:77", after := #[{ on := 11, ground := Go.Ground.data }, { on := 12, ground := Go.Ground.data }], guard := Option.none }) (v := ?_) rfl (by kernel_rfl) (by kernel_rfl) (by kernel_rfl) (fun _ _ _ h => h) (Or.inl ⟨by rfl, ?_⟩) hHeld ?_
        rotate_left
        · intro w hSw
          try dsimp only at hSw
          go_simp
          try (with_reducible rfl)
        simp only [Act.put, List.setIfInBounds_toArray, List.set_cons_zero, List.set_cons_succ]
        refine wpAnyH_take (i := 14) (oi := { dst := Option.some 35, op := Go.Op.load 3 (Go.Operand.tmp 34), type := 3, pos := "l09_commit.go:77", after := #[{ on := 13, ground := Go.Ground.data }], guard := Option.none }) (v := ?_) rfl (by kernel_rfl) (by kernel_rfl) (by kernel_rfl) (fun _ _ _ h => h) (Or.inl ⟨by rfl, ?_⟩) hHeld ?_
        rotate_left
        · intro w hSw
          try dsimp only at hSw
          go_simp
          try (with_reducible rfl)
        simp only [Act.put, List.setIfInBounds_toArray, List.set_cons_zero, List.set_cons_succ]
        refine wpAnyH_ready (rs := [1, 10]) (by kernel_rfl) (by decide) ?_
        refine AllReadyH.cons (o := { dst := Option.some 22, op := Go.Op.load 31 (Go.Operand.tmp 21), type := 31, pos := "l09_commit.go:77", after := #[{ on := 0, ground := Go.Ground.data }], guard := Option.none }) rfl (fun K hK => ?_) (AllReadyH.cons (o := { dst := Option.some 31, op := Go.Op.load 33 (Go.Operand.tmp 7), type := 33, pos := "l09_commit.go:77", after := #[], guard := Option.none }) rfl (fun K hK => ?_) AllReadyH.nil)
        · have c3 := HYd.out.1.cell 3 rfl
          go_simp
          refine hK.out _ _ (sd) (fun hHeld => ?_)
          clear hK K
          try simp only [Act.put, List.setIfInBounds_toArray, List.set_cons_zero, List.set_cons_succ]
          refine wpAnyH_ready (rs := [10]) (by kernel_rfl) (by decide) ?_
          refine AllReadyH.cons (o := { dst := Option.some 31, op := Go.Op.load 33 (Go.Operand.tmp 7), type := 33, pos := "l09_commit.go:77", after := #[], guard := Option.none }) rfl (fun K hK => ?_) AllReadyH.nil
          have c0 := HYd.out.1.cell 0 rfl
          have c1 := HYd.out.1.cell 1 rfl
          have c2 := HYd.out.1.cell 2 rfl
          have c3 := HYd.out.1.cell 3 rfl
          go_simp
          refine hK.out _ _ (sd) (fun hHeld => ?_)
          clear hK K
          try simp only [Act.put, List.setIfInBounds_toArray, List.set_cons_zero, List.set_cons_succ]
          refine wpAnyH_ready (rs := [15]) (by kernel_rfl) (by decide) ?_
          refine AllReadyH.cons (o := { dst := Option.some 36, op := Go.Op.call { callee := Go.Callee.value (Go.Operand.func 54), args := #[Go.Operand.tmp 31, Go.Operand.tmp 35], argTypes := #[33, 3] }, type := 98, pos := "l09_commit.go:77", after := #[{ on := 10, ground := Go.Ground.data }, { on := 14, ground := Go.Ground.data }], guard := Option.none }) rfl (fun K hK => ?_) AllReadyH.nil
          go_simp
          go_at_call 54
          refine (k9 _ _ _).mono ?_
          rintro e w6 ⟨rfl, b6⟩
          have HY6 : Hid (RC w1 w6 w1.heap.size ⟨h, rd, I, l⟩ (.slice qa l.length qc)) := HYd.out.below b6
          have s6 := HCk.out _ HY6.out.2.2
          clear b6
          refine hK.out _ _ (s6) (fun hHeld => ?_)
          clear hK K
          try simp only [Act.put, List.setIfInBounds_toArray, List.set_cons_zero, List.set_cons_succ]
          refine wpAnyH_ready (rs := [16]) (by kernel_rfl) (by decide) ?_
          refine AllReadyH.cons (o := { dst := Option.some 37, op := Go.Op.call { callee := Go.Callee.value (Go.Operand.func 87), args := #[Go.Operand.tmp 36], argTypes := #[98] }, type := 9, pos := "l09_commit.go:77", after := #[{ on := 15, ground := Go.Ground.data }, { on := 15, ground := Go.Ground.chain }], guard := Option.none }) rfl (fun K hK => ?_) AllReadyH.nil
          go_simp
          go_at_call 87
          refine (kD _).mono ?_
          rintro e w7 ⟨rfl, b7⟩
          have HY7 : Hid (RC w1 w7 w1.heap.size ⟨h, rd, I, l⟩ (.slice qa l.length qc)) := HY6.out.below b7
          have s7 := HCk.out _ HY7.out.2.2
          clear b7
          refine hK.out _ _ (s7) (fun hHeld => ?_)
          clear hK K
          try simp only [Act.put, List.setIfInBounds_toArray, List.set_cons_zero, List.set_cons_succ]
          refine wpAnyH_ready (rs := [17]) (by kernel_rfl) (by decide) ?_
          refine AllReadyH.cons (o := { dst := Option.some 38, op := Go.Op.call { callee := Go.Callee.value (Go.Operand.func 86), args := #[Go.Operand.tmp 30, Go.Operand.tmp 37], argTypes := #[3, 9] }, type := 9, pos := "l09_commit.go:77", after := #[{ on := 9, ground := Go.Ground.data }, { on := 16, ground := Go.Ground.data }, { on := 16, ground := Go.Ground.chain }], guard := Option.none }) rfl (fun K hK => ?_) AllReadyH.nil
          go_simp
          go_at_call 86
          refine (kG _).mono ?_
          rintro e w8 ⟨rfl, b8⟩
          have HY8 : Hid (RC w1 w8 w1.heap.size ⟨h, rd, I, l⟩ (.slice qa l.length qc)) := HY7.out.below b8
          have s0 := HCk.out _ HY8.out.2.2
          clear b8
          refine hK.out _ _ (s0) (fun hHeld => ?_)
          clear hK K
          try simp only [Act.put, List.setIfInBounds_toArray, List.set_cons_zero, List.set_cons_succ]
          refine wpAnyH_take (i := 18) (oi := { dst := Option.some 39, op := Go.Op.build 95 #[(0, Go.Operand.tmp 26), (1, Go.Operand.tmp 38)], type := 95, pos := "l09_commit.go:77", after := #[{ on := 5, ground := Go.Ground.data }, { on := 17, ground := Go.Ground.data }], guard := Option.none }) (v := ?_) rfl (by kernel_rfl) (by kernel_rfl) (by kernel_rfl) (fun _ _ _ h => h) (Or.inl ⟨by rfl, ?_⟩) hHeld ?_
          rotate_left
          · intro w hSw
            try dsimp only at hSw
            go_simp
            try (with_reducible rfl)
          simp only [Act.put, List.setIfInBounds_toArray, List.set_cons_zero, List.set_cons_succ]
          refine wpAnyH_ready (rs := [19]) (by kernel_rfl) (by decide) ?_
          refine AllReadyH.cons (o := { dst := Option.some 40, op := Go.Op.buildSlice 31 1 #[(0, Go.Operand.tmp 39)], type := 31, pos := "l09_commit.go:77", after := #[{ on := 18, ground := Go.Ground.data }], guard := Option.none }) rfl (fun K hK => ?_) AllReadyH.nil
          have HA8 : Hid (Below w8.heap.size w8 (w8.alloc (.cells #[.int .i64 z, .string S] 95))) := below_one _ _
          have HYa : Hid (RC w1 (w8.alloc (.cells #[.int .i64 z, .string S] 95)) w1.heap.size ⟨h, rd, I, l⟩ (.slice qa l.length qc)) := HY8.out.below HA8.out
          have s8 := HCk.out _ HYa.out.2.2
          go_simp
          refine hK.out _ _ (s8) (fun hHeld => ?_)
          clear hK K
          try simp only [Act.put, List.setIfInBounds_toArray, List.set_cons_zero, List.set_cons_succ]
          refine wpAnyH_ready (rs := [20]) (by kernel_rfl) (by decide) ?_
          refine AllReadyH.cons (o := { dst := Option.some 41, op := Go.Op.call { callee := Go.Callee.builtin Go.Builtin.append, args := #[Go.Operand.tmp 22, Go.Operand.tmp 40], argTypes := #[31, 31] }, type := 31, pos := "l09_commit.go:77", after := #[{ on := 1, ground := Go.Ground.data }, { on := 19, ground := Go.Ground.data }, { on := 17, ground := Go.Ground.chain }], guard := Option.none }) rfl (fun K hK => ?_) AllReadyH.nil
          have HO8 : Hid (OwnS (w8.alloc (.cells #[.int .i64 z, .string S] 95)) (w1.heap.size + 1) (.slice qa l.length qc) l) := HYa.out.2.1
          have HC8 : Hid (_) := one_sg w8 ⟨z, S⟩ w8.heap.size rfl
          have hg8 : w1.heap.size < w8.heap.size := HY8.out.1.lt
          refine step_append_row (by rfl) _ _ 31 (by rfl) (w1.heap.size + 1) 95 i0 (.agg #[.int .i64 0, .string ⟨#[]⟩]) 2 24 Tryz.underlying31 hinf hz0 hz1 hz2 rfl (by decide) _ _ _ (by rfl) HO8.out ⟨w8.heap.size, 0, none⟩ 1 1 (sgs [⟨z, S⟩]) (by rfl) (by rfl) HC8.out (sgs_one _) (by unfold maxLen; omega) (by omega) (by simp; omega) ?_
          intro v9 w9 hown9 hgrow9 _
          obtain ⟨a9, c9, rfl⟩ := own_shape hown9
          have HX9 : Hid (Blk w9 w1.heap.size [.int .i64 h, .int .i64 rd, .string I, .slice qa l.length qc] 33) := HYa.out.1.grown hgrow9 (fun e => by have := (HYa.out.2.1.lt _ e).1; omega)
          have HF : Hid (RC w1 (w9.setCell ⟨w1.heap.size, 3, none⟩ (.slice a9 (l.length + 1) c9)) w1.heap.size ⟨h, rd, I, l ++ [⟨z, S⟩]⟩ (.slice a9 (l.length + 1) c9)) := HY8.out.app HA8.out hgrow9 hown9
          have s9 : w9.cell? ⟨b, o + k, none⟩ = some (.int .i64 z) := by
            have q9 := hgrow9.block b (by simp; omega) (fun e => by have := (HY8.out.2.1.lt _ e.symm).1; omega)
            rw [World.cell?_of_block (a := ⟨b, o + k, none⟩) q9]; exact s8
          have s10 := HCk.out _ HF.out.2.2
          clear hown9 hgrow9
          refine hK.out _ _ (s9) (fun hHeld => ?_)
          clear hK K
          try simp only [Act.put, List.setIfInBounds_toArray, List.set_cons_zero, List.set_cons_succ]
          refine wpAnyH_take (i := 21) (oi := { dst := Option.some 42, op := Go.Op.fieldAddr 33 (Go.Operand.tmp 7) 3, type := 0, pos := "l09_commit.go:77", after := #[{ on := 0, ground := Go.Ground.phase }, { on := 1, ground := Go.Ground.phase }, { on := 2, ground := Go.Ground.phase }, { on := 3, ground := Go.Ground.phase }, { on := 4, ground := Go.Ground.phase }, { on := 5, ground := Go.Ground.phase }, { on := 6, ground := Go.Ground.phase }, { on := 7, ground := Go.Ground.phase }, { on := 8, ground := Go.Ground.phase }, { on := 9, ground := Go.Ground.phase }, { on := 10, ground := Go.Ground.phase }, { on := 11, ground := Go.Ground.phase }, { on := 12, ground := Go.Ground.phase }, { on := 13, ground := Go.Ground.phase }, { on := 14, ground := Go.Ground.phase }, { on := 15, ground := Go.Ground.phase }, { on := 16, ground := Go.Ground.phase }, { on := 17, ground := Go.Ground.phase }, { on := 18, ground := Go.Ground.phase }, { on := 19, ground := Go.Ground.phase }, { on := 20, ground := Go.Ground.phase }], guard := Option.none }) (v := ?_) rfl (by kernel_rfl) (by kernel_rfl) (by kernel_rfl) (fun _ _ _ h => h) (Or.inl ⟨by rfl, ?_⟩) hHeld ?_
          rotate_left
          · intro w hSw
            try dsimp only at hSw
            go_simp
            try (with_reducible rfl)
          simp only [Act.put, List.setIfInBounds_toArray, List.set_cons_zero, List.set_cons_succ]
          refine wpAnyH_ready (rs := [22]) (by kernel_rfl) (by decide) ?_
          refine AllReadyH.cons (o := { dst := Option.none, op := Go.Op.store 31 (Go.Operand.tmp 42) (Go.Operand.tmp 41), type := 0, pos := "l09_commit.go:77", after := #[{ on := 21, ground := Go.Ground.data }, { on := 20, ground := Go.Ground.data }, { on := 20, ground := Go.Ground.chain }, { on := 0, ground := Go.Ground.phase }, { on := 1, ground := Go.Ground.phase }, { on := 2, ground := Go.Ground.phase }, { on := 3, ground := Go.Ground.phase }, { on := 4, ground := Go.Ground.phase }, { on := 5, ground := Go.Ground.phase }, { on := 6, ground := Go.Ground.phase }, { on := 7, ground := Go.Ground.phase }, { on := 8, ground := Go.Ground.phase }, { on := 9, ground := Go.Ground.phase }, { on := 10, ground := Go.Ground.phase }, { on := 11, ground := Go.Ground.phase }, { on := 12, ground := Go.Ground.phase }, { on := 13, ground := Go.Ground.phase }, { on := 14, ground := Go.Ground.phase }, { on := 15, ground := Go.Ground.phase }, { on := 16, ground := Go.Ground.phase }, { on := 17, ground := Go.Ground.phase }, { on := 18, ground := Go.Ground.phase }, { on := 19, ground := Go.Ground.phase }, { on := 20, ground := Go.Ground.phase }], guard := Option.none }) rfl (fun K hK => ?_) AllReadyH.nil
          have x9 := HX9.out.cell 3 rfl
          have f9 := HX9.out.frozen 3
          go_simp
          refine hK.out _ _ (s10) (fun hHeld => ?_)
          clear hK K
          try simp only [Act.put, List.setIfInBounds_toArray, List.set_cons_zero, List.set_cons_succ]
          refine wpAnyH_done (by kernel_rfl) ?_ _
          go_wp2
          go_roundw
          case rel =>
            have R : ∃ (k' : Nat) (l' : List Sg) (q' : Value), k' ≤ ids.length ∧ Value.int .i64 ((k : Int) + 1) = .int .i64 k' ∧ Hid (l'.length = k' ∧ ∀ z ∈ l', z.s.size ≤ 8) ∧ Hid (RC w1 (w9.setCell ⟨w1.heap.size, 3, none⟩ (.slice a9 (l.length + 1) c9)) w1.heap.size ⟨h, rd, I, l'⟩ q') := ⟨k + 1, l ++ [⟨z, S⟩], _, by omega, by go_num, ⟨by simp; exact HLn.out.1, fun y hy => by (rcases List.mem_append.1 hy with hy | hy; exact HLn.out.2 y hy; simp at hy; subst hy; exact hgs)⟩, HF⟩
            first | exact R | ((repeat apply Exists.intro); exact ⟨R, rfl⟩)
          case measure => simp [intOf]; omega
        · have c0 := HYd.out.1.cell 0 rfl
          have c1 := HYd.out.1.cell 1 rfl
          have c2 := HYd.out.1.cell 2 rfl
          have c3 := HYd.out.1.cell 3 rfl
          go_simp
          refine hK.out _ _ (sd) (fun hHeld => ?_)
          clear hK K
          try simp only [Act.put, List.setIfInBounds_toArray, List.set_cons_zero, List.set_cons_succ]
          refine wpAnyH_ready (rs := [1, 15]) (by kernel_rfl) (by decide) ?_
          refine AllReadyH.cons (o := { dst := Option.some 22, op := Go.Op.load 31 (Go.Operand.tmp 21), type := 31, pos := "l09_commit.go:77", after := #[{ on := 0, ground := Go.Ground.data }], guard := Option.none }) rfl (fun K hK => ?_) (AllReadyH.cons (o := { dst := Option.some 36, op := Go.Op.call { callee := Go.Callee.value (Go.Operand.func 54), args := #[Go.Operand.tmp 31, Go.Operand.tmp 35], argTypes := #[33, 3] }, type := 98, pos := "l09_commit.go:77", after := #[{ on := 10, ground := Go.Ground.data }, { on := 14, ground := Go.Ground.data }], guard := Option.none }) rfl (fun K hK => ?_) AllReadyH.nil)
          · have c3 := HYd.out.1.cell 3 rfl
            go_simp
            refine hK.out _ _ (sd) (fun hHeld => ?_)
            clear hK K
            try simp only [Act.put, List.setIfInBounds_toArray, List.set_cons_zero, List.set_cons_succ]
            refine wpAnyH_ready (rs := [15]) (by kernel_rfl) (by decide) ?_
            refine AllReadyH.cons (o := { dst := Option.some 36, op := Go.Op.call { callee := Go.Callee.value (Go.Operand.func 54), args := #[Go.Operand.tmp 31, Go.Operand.tmp 35], argTypes := #[33, 3] }, type := 98, pos := "l09_commit.go:77", after := #[{ on := 10, ground := Go.Ground.data }, { on := 14, ground := Go.Ground.data }], guard := Option.none }) rfl (fun K hK => ?_) AllReadyH.nil
            go_simp
            go_at_call 54
            refine (k9 _ _ _).mono ?_
            rintro e w6 ⟨rfl, b6⟩
            have HY6 : Hid (RC w1 w6 w1.heap.size ⟨h, rd, I, l⟩ (.slice qa l.length qc)) := HYd.out.below b6
            have s6 := HCk.out _ HY6.out.2.2
            clear b6
            refine hK.out _ _ (s6) (fun hHeld => ?_)
            clear hK K
            try simp only [Act.put, List.setIfInBounds_toArray, List.set_cons_zero, List.set_cons_succ]
            refine wpAnyH_ready (rs := [16]) (by kernel_rfl) (by decide) ?_
            refine AllReadyH.cons (o := { dst := Option.some 37, op := Go.Op.call { callee := Go.Callee.value (Go.Operand.func 87), args := #[Go.Operand.tmp 36], argTypes := #[98] }, type := 9, pos := "l09_commit.go:77", after := #[{ on := 15, ground := Go.Ground.data }, { on := 15, ground := Go.Ground.chain }], guard := Option.none }) rfl (fun K hK => ?_) AllReadyH.nil
            go_simp
            go_at_call 87
            refine (kD _).mono ?_
            rintro e w7 ⟨rfl, b7⟩
            have HY7 : Hid (RC w1 w7 w1.heap.size ⟨h, rd, I, l⟩ (.slice qa l.length qc)) := HY6.out.below b7
            have s7 := HCk.out _ HY7.out.2.2
            clear b7
            refine hK.out _ _ (s7) (fun hHeld => ?_)
            clear hK K
            try simp only [Act.put, List.setIfInBounds_toArray, List.set_cons_zero, List.set_cons_succ]
            refine wpAnyH_ready (rs := [17]) (by kernel_rfl) (by decide) ?_
            refine AllReadyH.cons (o := { dst := Option.some 38, op := Go.Op.call { callee := Go.Callee.value (Go.Operand.func 86), args := #[Go.Operand.tmp 30, Go.Operand.tmp 37], argTypes := #[3, 9] }, type := 9, pos := "l09_commit.go:77", after := #[{ on := 9, ground := Go.Ground.data }, { on := 16, ground := Go.Ground.data }, { on := 16, ground := Go.Ground.chain }], guard := Option.none }) rfl (fun K hK => ?_) AllReadyH.nil
            go_simp
            go_at_call 86
            refine (kG _).mono ?_
            rintro e w8 ⟨rfl, b8⟩
            have HY8 : Hid (RC w1 w8 w1.heap.size ⟨h, rd, I, l⟩ (.slice qa l.length qc)) := HY7.out.below b8
            have s0 := HCk.out _ HY8.out.2.2
            clear b8
            refine hK.out _ _ (s0) (fun hHeld => ?_)
            clear hK K
            try simp only [Act.put, List.setIfInBounds_toArray, List.set_cons_zero, List.set_cons_succ]
            refine wpAnyH_take (i := 18) (oi := { dst := Option.some 39, op := Go.Op.build 95 #[(0, Go.Operand.tmp 26), (1, Go.Operand.tmp 38)], type := 95, pos := "l09_commit.go:77", after := #[{ on := 5, ground := Go.Ground.data }, { on := 17, ground := Go.Ground.data }], guard := Option.none }) (v := ?_) rfl (by kernel_rfl) (by kernel_rfl) (by kernel_rfl) (fun _ _ _ h => h) (Or.inl ⟨by rfl, ?_⟩) hHeld ?_
            rotate_left
            · intro w hSw
              try dsimp only at hSw
              go_simp
              try (with_reducible rfl)
            simp only [Act.put, List.setIfInBounds_toArray, List.set_cons_zero, List.set_cons_succ]
            refine wpAnyH_ready (rs := [19]) (by kernel_rfl) (by decide) ?_
            refine AllReadyH.cons (o := { dst := Option.some 40, op := Go.Op.buildSlice 31 1 #[(0, Go.Operand.tmp 39)], type := 31, pos := "l09_commit.go:77", after := #[{ on := 18, ground := Go.Ground.data }], guard := Option.none }) rfl (fun K hK => ?_) AllReadyH.nil
            have HA8 : Hid (Below w8.heap.size w8 (w8.alloc (.cells #[.int .i64 z, .string S] 95))) := below_one _ _
            have HYa : Hid (RC w1 (w8.alloc (.cells #[.int .i64 z, .string S] 95)) w1.heap.size ⟨h, rd, I, l⟩ (.slice qa l.length qc)) := HY8.out.below HA8.out
            have s8 := HCk.out _ HYa.out.2.2
            go_simp
            refine hK.out _ _ (s8) (fun hHeld => ?_)
            clear hK K
            try simp only [Act.put, List.setIfInBounds_toArray, List.set_cons_zero, List.set_cons_succ]
            refine wpAnyH_ready (rs := [20]) (by kernel_rfl) (by decide) ?_
            refine AllReadyH.cons (o := { dst := Option.some 41, op := Go.Op.call { callee := Go.Callee.builtin Go.Builtin.append, args := #[Go.Operand.tmp 22, Go.Operand.tmp 40], argTypes := #[31, 31] }, type := 31, pos := "l09_commit.go:77", after := #[{ on := 1, ground := Go.Ground.data }, { on := 19, ground := Go.Ground.data }, { on := 17, ground := Go.Ground.chain }], guard := Option.none }) rfl (fun K hK => ?_) AllReadyH.nil
            have HO8 : Hid (OwnS (w8.alloc (.cells #[.int .i64 z, .string S] 95)) (w1.heap.size + 1) (.slice qa l.length qc) l) := HYa.out.2.1
            have HC8 : Hid (_) := one_sg w8 ⟨z, S⟩ w8.heap.size rfl
            have hg8 : w1.heap.size < w8.heap.size := HY8.out.1.lt
            refine step_append_row (by rfl) _ _ 31 (by rfl) (w1.heap.size + 1) 95 i0 (.agg #[.int .i64 0, .string ⟨#[]⟩]) 2 24 Tryz.underlying31 hinf hz0 hz1 hz2 rfl (by decide) _ _ _ (by rfl) HO8.out ⟨w8.heap.size, 0, none⟩ 1 1 (sgs [⟨z, S⟩]) (by rfl) (by rfl) HC8.out (sgs_one _) (by unfold maxLen; omega) (by omega) (by simp; omega) ?_
            intro v9 w9 hown9 hgrow9 _
            obtain ⟨a9, c9, rfl⟩ := own_shape hown9
            have HX9 : Hid (Blk w9 w1.heap.size [.int .i64 h, .int .i64 rd, .string I, .slice qa l.length qc] 33) := HYa.out.1.grown hgrow9 (fun e => by have := (HYa.out.2.1.lt _ e).1; omega)
            have HF : Hid (RC w1 (w9.setCell ⟨w1.heap.size, 3, none⟩ (.slice a9 (l.length + 1) c9)) w1.heap.size ⟨h, rd, I, l ++ [⟨z, S⟩]⟩ (.slice a9 (l.length + 1) c9)) := HY8.out.app HA8.out hgrow9 hown9
            have s9 : w9.cell? ⟨b, o + k, none⟩ = some (.int .i64 z) := by
              have q9 := hgrow9.block b (by simp; omega) (fun e => by have := (HY8.out.2.1.lt _ e.symm).1; omega)
              rw [World.cell?_of_block (a := ⟨b, o + k, none⟩) q9]; exact s8
            have s10 := HCk.out _ HF.out.2.2
            clear hown9 hgrow9
            refine hK.out _ _ (s9) (fun hHeld => ?_)
            clear hK K
            try simp only [Act.put, List.setIfInBounds_toArray, List.set_cons_zero, List.set_cons_succ]
            refine wpAnyH_take (i := 21) (oi := { dst := Option.some 42, op := Go.Op.fieldAddr 33 (Go.Operand.tmp 7) 3, type := 0, pos := "l09_commit.go:77", after := #[{ on := 0, ground := Go.Ground.phase }, { on := 1, ground := Go.Ground.phase }, { on := 2, ground := Go.Ground.phase }, { on := 3, ground := Go.Ground.phase }, { on := 4, ground := Go.Ground.phase }, { on := 5, ground := Go.Ground.phase }, { on := 6, ground := Go.Ground.phase }, { on := 7, ground := Go.Ground.phase }, { on := 8, ground := Go.Ground.phase }, { on := 9, ground := Go.Ground.phase }, { on := 10, ground := Go.Ground.phase }, { on := 11, ground := Go.Ground.phase }, { on := 12, ground := Go.Ground.phase }, { on := 13, ground := Go.Ground.phase }, { on := 14, ground := Go.Ground.phase }, { on := 15, ground := Go.Ground.phase }, { on := 16, ground := Go.Ground.phase }, { on := 17, ground := Go.Ground.phase }, { on := 18, ground := Go.Ground.phase }, { on := 19, ground := Go.Ground.phase }, { on := 20, ground := Go.Ground.phase }], guard := Option.none }) (v := ?_) rfl (by kernel_rfl) (by kernel_rfl) (by kernel_rfl) (fun _ _ _ h => h) (Or.inl ⟨by rfl, ?_⟩) hHeld ?_
            rotate_left
            · intro w hSw
              try dsimp only at hSw
              go_simp
              try (with_reducible rfl)
            simp only [Act.put, List.setIfInBounds_toArray, List.set_cons_zero, List.set_cons_succ]
            refine wpAnyH_ready (rs := [22]) (by kernel_rfl) (by decide) ?_
            refine AllReadyH.cons (o := { dst := Option.none, op := Go.Op.store 31 (Go.Operand.tmp 42) (Go.Operand.tmp 41), type := 0, pos := "l09_commit.go:77", after := #[{ on := 21, ground := Go.Ground.data }, { on := 20, ground := Go.Ground.data }, { on := 20, ground := Go.Ground.chain }, { on := 0, ground := Go.Ground.phase }, { on := 1, ground := Go.Ground.phase }, { on := 2, ground := Go.Ground.phase }, { on := 3, ground := Go.Ground.phase }, { on := 4, ground := Go.Ground.phase }, { on := 5, ground := Go.Ground.phase }, { on := 6, ground := Go.Ground.phase }, { on := 7, ground := Go.Ground.phase }, { on := 8, ground := Go.Ground.phase }, { on := 9, ground := Go.Ground.phase }, { on := 10, ground := Go.Ground.phase }, { on := 11, ground := Go.Ground.phase }, { on := 12, ground := Go.Ground.phase }, { on := 13, ground := Go.Ground.phase }, { on := 14, ground := Go.Ground.phase }, { on := 15, ground := Go.Ground.phase }, { on := 16, ground := Go.Ground.phase }, { on := 17, ground := Go.Ground.phase }, { on := 18, ground := Go.Ground.phase }, { on := 19, ground := Go.Ground.phase }, { on := 20, ground := Go.Ground.phase }], guard := Option.none }) rfl (fun K hK => ?_) AllReadyH.nil
            have x9 := HX9.out.cell 3 rfl
            have f9 := HX9.out.frozen 3
            go_simp
            refine hK.out _ _ (s10) (fun hHeld => ?_)
            clear hK K
            try simp only [Act.put, List.setIfInBounds_toArray, List.set_cons_zero, List.set_cons_succ]
            refine wpAnyH_done (by kernel_rfl) ?_ _
            go_wp2
            go_roundw
            case rel =>
              have R : ∃ (k' : Nat) (l' : List Sg) (q' : Value), k' ≤ ids.length ∧ Value.int .i64 ((k : Int) + 1) = .int .i64 k' ∧ Hid (l'.length = k' ∧ ∀ z ∈ l', z.s.size ≤ 8) ∧ Hid (RC w1 (w9.setCell ⟨w1.heap.size, 3, none⟩ (.slice a9 (l.length + 1) c9)) w1.heap.size ⟨h, rd, I, l'⟩ q') := ⟨k + 1, l ++ [⟨z, S⟩], _, by omega, by go_num, ⟨by simp; exact HLn.out.1, fun y hy => by (rcases List.mem_append.1 hy with hy | hy; exact HLn.out.2 y hy; simp at hy; subst hy; exact hgs)⟩, HF⟩
              first | exact R | ((repeat apply Exists.intro); exact ⟨R, rfl⟩)
            case measure => simp [intOf]; omega
          · go_simp
            go_at_call 54
            refine (k9 _ _ _).mono ?_
            rintro e w6 ⟨rfl, b6⟩
            have HY6 : Hid (RC w1 w6 w1.heap.size ⟨h, rd, I, l⟩ (.slice qa l.length qc)) := HYd.out.below b6
            have s6 := HCk.out _ HY6.out.2.2
            clear b6
            refine hK.out _ _ (s6) (fun hHeld => ?_)
            clear hK K
            try simp only [Act.put, List.setIfInBounds_toArray, List.set_cons_zero, List.set_cons_succ]
            refine wpAnyH_ready (rs := [1, 16]) (by kernel_rfl) (by decide) ?_
            refine AllReadyH.cons (o := { dst := Option.some 22, op := Go.Op.load 31 (Go.Operand.tmp 21), type := 31, pos := "l09_commit.go:77", after := #[{ on := 0, ground := Go.Ground.data }], guard := Option.none }) rfl (fun K hK => ?_) (AllReadyH.cons (o := { dst := Option.some 37, op := Go.Op.call { callee := Go.Callee.value (Go.Operand.func 87), args := #[Go.Operand.tmp 36], argTypes := #[98] }, type := 9, pos := "l09_commit.go:77", after := #[{ on := 15, ground := Go.Ground.data }, { on := 15, ground := Go.Ground.chain }], guard := Option.none }) rfl (fun K hK => ?_) AllReadyH.nil)
            · have c3 := HY6.out.1.cell 3 rfl
              go_simp
              refine hK.out _ _ (s6) (fun hHeld => ?_)
              clear hK K
              try simp only [Act.put, List.setIfInBounds_toArray, List.set_cons_zero, List.set_cons_succ]
              refine wpAnyH_ready (rs := [16]) (by kernel_rfl) (by decide) ?_
              refine AllReadyH.cons (o := { dst := Option.some 37, op := Go.Op.call { callee := Go.Callee.value (Go.Operand.func 87), args := #[Go.Operand.tmp 36], argTypes := #[98] }, type := 9, pos := "l09_commit.go:77", after := #[{ on := 15, ground := Go.Ground.data }, { on := 15, ground := Go.Ground.chain }], guard := Option.none }) rfl (fun K hK => ?_) AllReadyH.nil
              go_simp
              go_at_call 87
              refine (kD _).mono ?_
              rintro e w7 ⟨rfl, b7⟩
              have HY7 : Hid (RC w1 w7 w1.heap.size ⟨h, rd, I, l⟩ (.slice qa l.length qc)) := HY6.out.below b7
              have s7 := HCk.out _ HY7.out.2.2
              clear b7
              refine hK.out _ _ (s7) (fun hHeld => ?_)
              clear hK K
              try simp only [Act.put, List.setIfInBounds_toArray, List.set_cons_zero, List.set_cons_succ]
              refine wpAnyH_ready (rs := [17]) (by kernel_rfl) (by decide) ?_
              refine AllReadyH.cons (o := { dst := Option.some 38, op := Go.Op.call { callee := Go.Callee.value (Go.Operand.func 86), args := #[Go.Operand.tmp 30, Go.Operand.tmp 37], argTypes := #[3, 9] }, type := 9, pos := "l09_commit.go:77", after := #[{ on := 9, ground := Go.Ground.data }, { on := 16, ground := Go.Ground.data }, { on := 16, ground := Go.Ground.chain }], guard := Option.none }) rfl (fun K hK => ?_) AllReadyH.nil
              go_simp
              go_at_call 86
              refine (kG _).mono ?_
              rintro e w8 ⟨rfl, b8⟩
              have HY8 : Hid (RC w1 w8 w1.heap.size ⟨h, rd, I, l⟩ (.slice qa l.length qc)) := HY7.out.below b8
              have s0 := HCk.out _ HY8.out.2.2
              clear b8
              refine hK.out _ _ (s0) (fun hHeld => ?_)
              clear hK K
              try simp only [Act.put, List.setIfInBounds_toArray, List.set_cons_zero, List.set_cons_succ]
              refine wpAnyH_take (i := 18) (oi := { dst := Option.some 39, op := Go.Op.build 95 #[(0, Go.Operand.tmp 26), (1, Go.Operand.tmp 38)], type := 95, pos := "l09_commit.go:77", after := #[{ on := 5, ground := Go.Ground.data }, { on := 17, ground := Go.Ground.data }], guard := Option.none }) (v := ?_) rfl (by kernel_rfl) (by kernel_rfl) (by kernel_rfl) (fun _ _ _ h => h) (Or.inl ⟨by rfl, ?_⟩) hHeld ?_
              rotate_left
              · intro w hSw
                try dsimp only at hSw
                go_simp
                try (with_reducible rfl)
              simp only [Act.put, List.setIfInBounds_toArray, List.set_cons_zero, List.set_cons_succ]
              refine wpAnyH_ready (rs := [19]) (by kernel_rfl) (by decide) ?_
              refine AllReadyH.cons (o := { dst := Option.some 40, op := Go.Op.buildSlice 31 1 #[(0, Go.Operand.tmp 39)], type := 31, pos := "l09_commit.go:77", after := #[{ on := 18, ground := Go.Ground.data }], guard := Option.none }) rfl (fun K hK => ?_) AllReadyH.nil
              have HA8 : Hid (Below w8.heap.size w8 (w8.alloc (.cells #[.int .i64 z, .string S] 95))) := below_one _ _
              have HYa : Hid (RC w1 (w8.alloc (.cells #[.int .i64 z, .string S] 95)) w1.heap.size ⟨h, rd, I, l⟩ (.slice qa l.length qc)) := HY8.out.below HA8.out
              have s8 := HCk.out _ HYa.out.2.2
              go_simp
              refine hK.out _ _ (s8) (fun hHeld => ?_)
              clear hK K
              try simp only [Act.put, List.setIfInBounds_toArray, List.set_cons_zero, List.set_cons_succ]
              refine wpAnyH_ready (rs := [20]) (by kernel_rfl) (by decide) ?_
              refine AllReadyH.cons (o := { dst := Option.some 41, op := Go.Op.call { callee := Go.Callee.builtin Go.Builtin.append, args := #[Go.Operand.tmp 22, Go.Operand.tmp 40], argTypes := #[31, 31] }, type := 31, pos := "l09_commit.go:77", after := #[{ on := 1, ground := Go.Ground.data }, { on := 19, ground := Go.Ground.data }, { on := 17, ground := Go.Ground.chain }], guard := Option.none }) rfl (fun K hK => ?_) AllReadyH.nil
              have HO8 : Hid (OwnS (w8.alloc (.cells #[.int .i64 z, .string S] 95)) (w1.heap.size + 1) (.slice qa l.length qc) l) := HYa.out.2.1
              have HC8 : Hid (_) := one_sg w8 ⟨z, S⟩ w8.heap.size rfl
              have hg8 : w1.heap.size < w8.heap.size := HY8.out.1.lt
              refine step_append_row (by rfl) _ _ 31 (by rfl) (w1.heap.size + 1) 95 i0 (.agg #[.int .i64 0, .string ⟨#[]⟩]) 2 24 Tryz.underlying31 hinf hz0 hz1 hz2 rfl (by decide) _ _ _ (by rfl) HO8.out ⟨w8.heap.size, 0, none⟩ 1 1 (sgs [⟨z, S⟩]) (by rfl) (by rfl) HC8.out (sgs_one _) (by unfold maxLen; omega) (by omega) (by simp; omega) ?_
              intro v9 w9 hown9 hgrow9 _
              obtain ⟨a9, c9, rfl⟩ := own_shape hown9
              have HX9 : Hid (Blk w9 w1.heap.size [.int .i64 h, .int .i64 rd, .string I, .slice qa l.length qc] 33) := HYa.out.1.grown hgrow9 (fun e => by have := (HYa.out.2.1.lt _ e).1; omega)
              have HF : Hid (RC w1 (w9.setCell ⟨w1.heap.size, 3, none⟩ (.slice a9 (l.length + 1) c9)) w1.heap.size ⟨h, rd, I, l ++ [⟨z, S⟩]⟩ (.slice a9 (l.length + 1) c9)) := HY8.out.app HA8.out hgrow9 hown9
              have s9 : w9.cell? ⟨b, o + k, none⟩ = some (.int .i64 z) := by
                have q9 := hgrow9.block b (by simp; omega) (fun e => by have := (HY8.out.2.1.lt _ e.symm).1; omega)
                rw [World.cell?_of_block (a := ⟨b, o + k, none⟩) q9]; exact s8
              have s10 := HCk.out _ HF.out.2.2
              clear hown9 hgrow9
              refine hK.out _ _ (s9) (fun hHeld => ?_)
              clear hK K
              try simp only [Act.put, List.setIfInBounds_toArray, List.set_cons_zero, List.set_cons_succ]
              refine wpAnyH_take (i := 21) (oi := { dst := Option.some 42, op := Go.Op.fieldAddr 33 (Go.Operand.tmp 7) 3, type := 0, pos := "l09_commit.go:77", after := #[{ on := 0, ground := Go.Ground.phase }, { on := 1, ground := Go.Ground.phase }, { on := 2, ground := Go.Ground.phase }, { on := 3, ground := Go.Ground.phase }, { on := 4, ground := Go.Ground.phase }, { on := 5, ground := Go.Ground.phase }, { on := 6, ground := Go.Ground.phase }, { on := 7, ground := Go.Ground.phase }, { on := 8, ground := Go.Ground.phase }, { on := 9, ground := Go.Ground.phase }, { on := 10, ground := Go.Ground.phase }, { on := 11, ground := Go.Ground.phase }, { on := 12, ground := Go.Ground.phase }, { on := 13, ground := Go.Ground.phase }, { on := 14, ground := Go.Ground.phase }, { on := 15, ground := Go.Ground.phase }, { on := 16, ground := Go.Ground.phase }, { on := 17, ground := Go.Ground.phase }, { on := 18, ground := Go.Ground.phase }, { on := 19, ground := Go.Ground.phase }, { on := 20, ground := Go.Ground.phase }], guard := Option.none }) (v := ?_) rfl (by kernel_rfl) (by kernel_rfl) (by kernel_rfl) (fun _ _ _ h => h) (Or.inl ⟨by rfl, ?_⟩) hHeld ?_
              rotate_left
              · intro w hSw
                try dsimp only at hSw
                go_simp
                try (with_reducible rfl)
              simp only [Act.put, List.setIfInBounds_toArray, List.set_cons_zero, List.set_cons_succ]
              refine wpAnyH_ready (rs := [22]) (by kernel_rfl) (by decide) ?_
              refine AllReadyH.cons (o := { dst := Option.none, op := Go.Op.store 31 (Go.Operand.tmp 42) (Go.Operand.tmp 41), type := 0, pos := "l09_commit.go:77", after := #[{ on := 21, ground := Go.Ground.data }, { on := 20, ground := Go.Ground.data }, { on := 20, ground := Go.Ground.chain }, { on := 0, ground := Go.Ground.phase }, { on := 1, ground := Go.Ground.phase }, { on := 2, ground := Go.Ground.phase }, { on := 3, ground := Go.Ground.phase }, { on := 4, ground := Go.Ground.phase }, { on := 5, ground := Go.Ground.phase }, { on := 6, ground := Go.Ground.phase }, { on := 7, ground := Go.Ground.phase }, { on := 8, ground := Go.Ground.phase }, { on := 9, ground := Go.Ground.phase }, { on := 10, ground := Go.Ground.phase }, { on := 11, ground := Go.Ground.phase }, { on := 12, ground := Go.Ground.phase }, { on := 13, ground := Go.Ground.phase }, { on := 14, ground := Go.Ground.phase }, { on := 15, ground := Go.Ground.phase }, { on := 16, ground := Go.Ground.phase }, { on := 17, ground := Go.Ground.phase }, { on := 18, ground := Go.Ground.phase }, { on := 19, ground := Go.Ground.phase }, { on := 20, ground := Go.Ground.phase }], guard := Option.none }) rfl (fun K hK => ?_) AllReadyH.nil
              have x9 := HX9.out.cell 3 rfl
              have f9 := HX9.out.frozen 3
              go_simp
              refine hK.out _ _ (s10) (fun hHeld => ?_)
              clear hK K
              try simp only [Act.put, List.setIfInBounds_toArray, List.set_cons_zero, List.set_cons_succ]
              refine wpAnyH_done (by kernel_rfl) ?_ _
              go_wp2
              go_roundw
              case rel =>
                have R : ∃ (k' : Nat) (l' : List Sg) (q' : Value), k' ≤ ids.length ∧ Value.int .i64 ((k : Int) + 1) = .int .i64 k' ∧ Hid (l'.length = k' ∧ ∀ z ∈ l', z.s.size ≤ 8) ∧ Hid (RC w1 (w9.setCell ⟨w1.heap.size, 3, none⟩ (.slice a9 (l.length + 1) c9)) w1.heap.size ⟨h, rd, I, l'⟩ q') := ⟨k + 1, l ++ [⟨z, S⟩], _, by omega, by go_num, ⟨by simp; exact HLn.out.1, fun y hy => by (rcases List.mem_append.1 hy with hy | hy; exact HLn.out.2 y hy; simp at hy; subst hy; exact hgs)⟩, HF⟩
                first | exact R | ((repeat apply Exists.intro); exact ⟨R, rfl⟩)
              case measure => simp [intOf]; omega
            · go_simp
              go_at_call 87
              refine (kD _).mono ?_
              rintro e w7 ⟨rfl, b7⟩
              have HY7 : Hid (RC w1 w7 w1.heap.size ⟨h, rd, I, l⟩ (.slice qa l.length qc)) := HY6.out.below b7
              have s7 := HCk.out _ HY7.out.2.2
              clear b7
              refine hK.out _ _ (s7) (fun hHeld => ?_)
              clear hK K
              try simp only [Act.put, List.setIfInBounds_toArray, List.set_cons_zero, List.set_cons_succ]
              refine wpAnyH_ready (rs := [1, 17]) (by kernel_rfl) (by decide) ?_
              refine AllReadyH.cons (o := { dst := Option.some 22, op := Go.Op.load 31 (Go.Operand.tmp 21), type := 31, pos := "l09_commit.go:77", after := #[{ on := 0, ground := Go.Ground.data }], guard := Option.none }) rfl (fun K hK => ?_) (AllReadyH.cons (o := { dst := Option.some 38, op := Go.Op.call { callee := Go.Callee.value (Go.Operand.func 86), args := #[Go.Operand.tmp 30, Go.Operand.tmp 37], argTypes := #[3, 9] }, type := 9, pos := "l09_commit.go:77", after := #[{ on := 9, ground := Go.Ground.data }, { on := 16, ground := Go.Ground.data }, { on := 16, ground := Go.Ground.chain }], guard := Option.none }) rfl (fun K hK => ?_) AllReadyH.nil)
              · have c3 := HY7.out.1.cell 3 rfl
                go_simp
                refine hK.out _ _ (s7) (fun hHeld => ?_)
                clear hK K
                try simp only [Act.put, List.setIfInBounds_toArray, List.set_cons_zero, List.set_cons_succ]
                refine wpAnyH_ready (rs := [17]) (by kernel_rfl) (by decide) ?_
                refine AllReadyH.cons (o := { dst := Option.some 38, op := Go.Op.call { callee := Go.Callee.value (Go.Operand.func 86), args := #[Go.Operand.tmp 30, Go.Operand.tmp 37], argTypes := #[3, 9] }, type := 9, pos := "l09_commit.go:77", after := #[{ on := 9, ground := Go.Ground.data }, { on := 16, ground := Go.Ground.data }, { on := 16, ground := Go.Ground.chain }], guard := Option.none }) rfl (fun K hK => ?_) AllReadyH.nil
                go_simp
                go_at_call 86
                refine (kG _).mono ?_
                rintro e w8 ⟨rfl, b8⟩
                have HY8 : Hid (RC w1 w8 w1.heap.size ⟨h, rd, I, l⟩ (.slice qa l.length qc)) := HY7.out.below b8
                have s0 := HCk.out _ HY8.out.2.2
                clear b8
                refine hK.out _ _ (s0) (fun hHeld => ?_)
                clear hK K
                try simp only [Act.put, List.setIfInBounds_toArray, List.set_cons_zero, List.set_cons_succ]
                refine wpAnyH_take (i := 18) (oi := { dst := Option.some 39, op := Go.Op.build 95 #[(0, Go.Operand.tmp 26), (1, Go.Operand.tmp 38)], type := 95, pos := "l09_commit.go:77", after := #[{ on := 5, ground := Go.Ground.data }, { on := 17, ground := Go.Ground.data }], guard := Option.none }) (v := ?_) rfl (by kernel_rfl) (by kernel_rfl) (by kernel_rfl) (fun _ _ _ h => h) (Or.inl ⟨by rfl, ?_⟩) hHeld ?_
                rotate_left
                · intro w hSw
                  try dsimp only at hSw
                  go_simp
                  try (with_reducible rfl)
                simp only [Act.put, List.setIfInBounds_toArray, List.set_cons_zero, List.set_cons_succ]
                refine wpAnyH_ready (rs := [19]) (by kernel_rfl) (by decide) ?_
                refine AllReadyH.cons (o := { dst := Option.some 40, op := Go.Op.buildSlice 31 1 #[(0, Go.Operand.tmp 39)], type := 31, pos := "l09_commit.go:77", after := #[{ on := 18, ground := Go.Ground.data }], guard := Option.none }) rfl (fun K hK => ?_) AllReadyH.nil
                have HA8 : Hid (Below w8.heap.size w8 (w8.alloc (.cells #[.int .i64 z, .string S] 95))) := below_one _ _
                have HYa : Hid (RC w1 (w8.alloc (.cells #[.int .i64 z, .string S] 95)) w1.heap.size ⟨h, rd, I, l⟩ (.slice qa l.length qc)) := HY8.out.below HA8.out
                have s8 := HCk.out _ HYa.out.2.2
                go_simp
                refine hK.out _ _ (s8) (fun hHeld => ?_)
                clear hK K
                try simp only [Act.put, List.setIfInBounds_toArray, List.set_cons_zero, List.set_cons_succ]
                refine wpAnyH_ready (rs := [20]) (by kernel_rfl) (by decide) ?_
                refine AllReadyH.cons (o := { dst := Option.some 41, op := Go.Op.call { callee := Go.Callee.builtin Go.Builtin.append, args := #[Go.Operand.tmp 22, Go.Operand.tmp 40], argTypes := #[31, 31] }, type := 31, pos := "l09_commit.go:77", after := #[{ on := 1, ground := Go.Ground.data }, { on := 19, ground := Go.Ground.data }, { on := 17, ground := Go.Ground.chain }], guard := Option.none }) rfl (fun K hK => ?_) AllReadyH.nil
                have HO8 : Hid (OwnS (w8.alloc (.cells #[.int .i64 z, .string S] 95)) (w1.heap.size + 1) (.slice qa l.length qc) l) := HYa.out.2.1
                have HC8 : Hid (_) := one_sg w8 ⟨z, S⟩ w8.heap.size rfl
                have hg8 : w1.heap.size < w8.heap.size := HY8.out.1.lt
                refine step_append_row (by rfl) _ _ 31 (by rfl) (w1.heap.size + 1) 95 i0 (.agg #[.int .i64 0, .string ⟨#[]⟩]) 2 24 Tryz.underlying31 hinf hz0 hz1 hz2 rfl (by decide) _ _ _ (by rfl) HO8.out ⟨w8.heap.size, 0, none⟩ 1 1 (sgs [⟨z, S⟩]) (by rfl) (by rfl) HC8.out (sgs_one _) (by unfold maxLen; omega) (by omega) (by simp; omega) ?_
                intro v9 w9 hown9 hgrow9 _
                obtain ⟨a9, c9, rfl⟩ := own_shape hown9
                have HX9 : Hid (Blk w9 w1.heap.size [.int .i64 h, .int .i64 rd, .string I, .slice qa l.length qc] 33) := HYa.out.1.grown hgrow9 (fun e => by have := (HYa.out.2.1.lt _ e).1; omega)
                have HF : Hid (RC w1 (w9.setCell ⟨w1.heap.size, 3, none⟩ (.slice a9 (l.length + 1) c9)) w1.heap.size ⟨h, rd, I, l ++ [⟨z, S⟩]⟩ (.slice a9 (l.length + 1) c9)) := HY8.out.app HA8.out hgrow9 hown9
                have s9 : w9.cell? ⟨b, o + k, none⟩ = some (.int .i64 z) := by
                  have q9 := hgrow9.block b (by simp; omega) (fun e => by have := (HY8.out.2.1.lt _ e.symm).1; omega)
                  rw [World.cell?_of_block (a := ⟨b, o + k, none⟩) q9]; exact s8
                have s10 := HCk.out _ HF.out.2.2
                clear hown9 hgrow9
                refine hK.out _ _ (s9) (fun hHeld => ?_)
                clear hK K
                try simp only [Act.put, List.setIfInBounds_toArray, List.set_cons_zero, List.set_cons_succ]
                refine wpAnyH_take (i := 21) (oi := { dst := Option.some 42, op := Go.Op.fieldAddr 33 (Go.Operand.tmp 7) 3, type := 0, pos := "l09_commit.go:77", after := #[{ on := 0, ground := Go.Ground.phase }, { on := 1, ground := Go.Ground.phase }, { on := 2, ground := Go.Ground.phase }, { on := 3, ground := Go.Ground.phase }, { on := 4, ground := Go.Ground.phase }, { on := 5, ground := Go.Ground.phase }, { on := 6, ground := Go.Ground.phase }, { on := 7, ground := Go.Ground.phase }, { on := 8, ground := Go.Ground.phase }, { on := 9, ground := Go.Ground.phase }, { on := 10, ground := Go.Ground.phase }, { on := 11, ground := Go.Ground.phase }, { on := 12, ground := Go.Ground.phase }, { on := 13, ground := Go.Ground.phase }, { on := 14, ground := Go.Ground.phase }, { on := 15, ground := Go.Ground.phase }, { on := 16, ground := Go.Ground.phase }, { on := 17, ground := Go.Ground.phase }, { on := 18, ground := Go.Ground.phase }, { on := 19, ground := Go.Ground.phase }, { on := 20, ground := Go.Ground.phase }], guard := Option.none }) (v := ?_) rfl (by kernel_rfl) (by kernel_rfl) (by kernel_rfl) (fun _ _ _ h => h) (Or.inl ⟨by rfl, ?_⟩) hHeld ?_
                rotate_left
                · intro w hSw
                  try dsimp only at hSw
                  go_simp
                  try (with_reducible rfl)
                simp only [Act.put, List.setIfInBounds_toArray, List.set_cons_zero, List.set_cons_succ]
                refine wpAnyH_ready (rs := [22]) (by kernel_rfl) (by decide) ?_
                refine AllReadyH.cons (o := { dst := Option.none, op := Go.Op.store 31 (Go.Operand.tmp 42) (Go.Operand.tmp 41), type := 0, pos := "l09_commit.go:77", after := #[{ on := 21, ground := Go.Ground.data }, { on := 20, ground := Go.Ground.data }, { on := 20, ground := Go.Ground.chain }, { on := 0, ground := Go.Ground.phase }, { on := 1, ground := Go.Ground.phase }, { on := 2, ground := Go.Ground.phase }, { on := 3, ground := Go.Ground.phase }, { on := 4, ground := Go.Ground.phase }, { on := 5, ground := Go.Ground.phase }, { on := 6, ground := Go.Ground.phase }, { on := 7, ground := Go.Ground.phase }, { on := 8, ground := Go.Ground.phase }, { on := 9, ground := Go.Ground.phase }, { on := 10, ground := Go.Ground.phase }, { on := 11, ground := Go.Ground.phase }, { on := 12, ground := Go.Ground.phase }, { on := 13, ground := Go.Ground.phase }, { on := 14, ground := Go.Ground.phase }, { on := 15, ground := Go.Ground.phase }, { on := 16, ground := Go.Ground.phase }, { on := 17, ground := Go.Ground.phase }, { on := 18, ground := Go.Ground.phase }, { on := 19, ground := Go.Ground.phase }, { on := 20, ground := Go.Ground.phase }], guard := Option.none }) rfl (fun K hK => ?_) AllReadyH.nil
                have x9 := HX9.out.cell 3 rfl
                have f9 := HX9.out.frozen 3
                go_simp
                refine hK.out _ _ (s10) (fun hHeld => ?_)
                clear hK K
                try simp only [Act.put, List.setIfInBounds_toArray, List.set_cons_zero, List.set_cons_succ]
                refine wpAnyH_done (by kernel_rfl) ?_ _
                go_wp2
                go_roundw
                case rel =>
                  have R : ∃ (k' : Nat) (l' : List Sg) (q' : Value), k' ≤ ids.length ∧ Value.int .i64 ((k : Int) + 1) = .int .i64 k' ∧ Hid (l'.length = k' ∧ ∀ z ∈ l', z.s.size ≤ 8) ∧ Hid (RC w1 (w9.setCell ⟨w1.heap.size, 3, none⟩ (.slice a9 (l.length + 1) c9)) w1.heap.size ⟨h, rd, I, l'⟩ q') := ⟨k + 1, l ++ [⟨z, S⟩], _, by omega, by go_num, ⟨by simp; exact HLn.out.1, fun y hy => by (rcases List.mem_append.1 hy with hy | hy; exact HLn.out.2 y hy; simp at hy; subst hy; exact hgs)⟩, HF⟩
                  first | exact R | ((repeat apply Exists.intro); exact ⟨R, rfl⟩)
                case measure => simp [intOf]; omega
              · go_simp
                go_at_call 86
                refine (kG _).mono ?_
                rintro e w8 ⟨rfl, b8⟩
                have HY8 : Hid (RC w1 w8 w1.heap.size ⟨h, rd, I, l⟩ (.slice qa l.length qc)) := HY7.out.below b8
                have s0 := HCk.out _ HY8.out.2.2
                clear b8
                refine hK.out _ _ (s0) (fun hHeld => ?_)
                clear hK K
                try simp only [Act.put, List.setIfInBounds_toArray, List.set_cons_zero, List.set_cons_succ]
                refine wpAnyH_take (i := 18) (oi := { dst := Option.some 39, op := Go.Op.build 95 #[(0, Go.Operand.tmp 26), (1, Go.Operand.tmp 38)], type := 95, pos := "l09_commit.go:77", after := #[{ on := 5, ground := Go.Ground.data }, { on := 17, ground := Go.Ground.data }], guard := Option.none }) (v := ?_) rfl (by kernel_rfl) (by kernel_rfl) (by kernel_rfl) (fun _ _ _ h => h) (Or.inl ⟨by rfl, ?_⟩) hHeld ?_
                rotate_left
                · intro w hSw
                  try dsimp only at hSw
                  go_simp
                  try (with_reducible rfl)
                simp only [Act.put, List.setIfInBounds_toArray, List.set_cons_zero, List.set_cons_succ]
                refine wpAnyH_ready (rs := [1, 19]) (by kernel_rfl) (by decide) ?_
                refine AllReadyH.cons (o := { dst := Option.some 22, op := Go.Op.load 31 (Go.Operand.tmp 21), type := 31, pos := "l09_commit.go:77", after := #[{ on := 0, ground := Go.Ground.data }], guard := Option.none }) rfl (fun K hK => ?_) (AllReadyH.cons (o := { dst := Option.some 40, op := Go.Op.buildSlice 31 1 #[(0, Go.Operand.tmp 39)], type := 31, pos := "l09_commit.go:77", after := #[{ on := 18, ground := Go.Ground.data }], guard := Option.none }) rfl (fun K hK => ?_) AllReadyH.nil)
                · have c3 := HY8.out.1.cell 3 rfl
                  go_simp
                  refine hK.out _ _ (s0) (fun hHeld => ?_)
                  clear hK K
                  try simp only [Act.put, List.setIfInBounds_toArray, List.set_cons_zero, List.set_cons_succ]
                  refine wpAnyH_ready (rs := [19]) (by kernel_rfl) (by decide) ?_
                  refine AllReadyH.cons (o := { dst := Option.some 40, op := Go.Op.buildSlice 31 1 #[(0, Go.Operand.tmp 39)], type := 31, pos := "l09_commit.go:77", after := #[{ on := 18, ground := Go.Ground.data }], guard := Option.none }) rfl (fun K hK => ?_) AllReadyH.nil
                  have HA8 : Hid (Below w8.heap.size w8 (w8.alloc (.cells #[.int .i64 z, .string S] 95))) := below_one _ _
                  have HYa : Hid (RC w1 (w8.alloc (.cells #[.int .i64 z, .string S] 95)) w1.heap.size ⟨h, rd, I, l⟩ (.slice qa l.length qc)) := HY8.out.below HA8.out
                  have s8 := HCk.out _ HYa.out.2.2
                  go_simp
                  refine hK.out _ _ (s8) (fun hHeld => ?_)
                  clear hK K
                  try simp only [Act.put, List.setIfInBounds_toArray, List.set_cons_zero, List.set_cons_succ]
                  refine wpAnyH_ready (rs := [20]) (by kernel_rfl) (by decide) ?_
                  refine AllReadyH.cons (o := { dst := Option.some 41, op := Go.Op.call { callee := Go.Callee.builtin Go.Builtin.append, args := #[Go.Operand.tmp 22, Go.Operand.tmp 40], argTypes := #[31, 31] }, type := 31, pos := "l09_commit.go:77", after := #[{ on := 1, ground := Go.Ground.data }, { on := 19, ground := Go.Ground.data }, { on := 17, ground := Go.Ground.chain }], guard := Option.none }) rfl (fun K hK => ?_) AllReadyH.nil
                  have HO8 : Hid (OwnS (w8.alloc (.cells #[.int .i64 z, .string S] 95)) (w1.heap.size + 1) (.slice qa l.length qc) l) := HYa.out.2.1
                  have HC8 : Hid (_) := one_sg w8 ⟨z, S⟩ w8.heap.size rfl
                  have hg8 : w1.heap.size < w8.heap.size := HY8.out.1.lt
                  refine step_append_row (by rfl) _ _ 31 (by rfl) (w1.heap.size + 1) 95 i0 (.agg #[.int .i64 0, .string ⟨#[]⟩]) 2 24 Tryz.underlying31 hinf hz0 hz1 hz2 rfl (by decide) _ _ _ (by rfl) HO8.out ⟨w8.heap.size, 0, none⟩ 1 1 (sgs [⟨z, S⟩]) (by rfl) (by rfl) HC8.out (sgs_one _) (by unfold maxLen; omega) (by omega) (by simp; omega) ?_
                  intro v9 w9 hown9 hgrow9 _
                  obtain ⟨a9, c9, rfl⟩ := own_shape hown9
                  have HX9 : Hid (Blk w9 w1.heap.size [.int .i64 h, .int .i64 rd, .string I, .slice qa l.length qc] 33) := HYa.out.1.grown hgrow9 (fun e => by have := (HYa.out.2.1.lt _ e).1; omega)
                  have HF : Hid (RC w1 (w9.setCell ⟨w1.heap.size, 3, none⟩ (.slice a9 (l.length + 1) c9)) w1.heap.size ⟨h, rd, I, l ++ [⟨z, S⟩]⟩ (.slice a9 (l.length + 1) c9)) := HY8.out.app HA8.out hgrow9 hown9
                  have s9 : w9.cell? ⟨b, o + k, none⟩ = some (.int .i64 z) := by
                    have q9 := hgrow9.block b (by simp; omega) (fun e => by have := (HY8.out.2.1.lt _ e.symm).1; omega)
                    rw [World.cell?_of_block (a := ⟨b, o + k, none⟩) q9]; exact s8
                  have s10 := HCk.out _ HF.out.2.2
                  clear hown9 hgrow9
                  refine hK.out _ _ (s9) (fun hHeld => ?_)
                  clear hK K
                  try simp only [Act.put, List.setIfInBounds_toArray, List.set_cons_zero, List.set_cons_succ]
                  refine wpAnyH_take (i := 21) (oi := { dst := Option.some 42, op := Go.Op.fieldAddr 33 (Go.Operand.tmp 7) 3, type := 0, pos := "l09_commit.go:77", after := #[{ on := 0, ground := Go.Ground.phase }, { on := 1, ground := Go.Ground.phase }, { on := 2, ground := Go.Ground.phase }, { on := 3, ground := Go.Ground.phase }, { on := 4, ground := Go.Ground.phase }, { on := 5, ground := Go.Ground.phase }, { on := 6, ground := Go.Ground.phase }, { on := 7, ground := Go.Ground.phase }, { on := 8, ground := Go.Ground.phase }, { on := 9, ground := Go.Ground.phase }, { on := 10, ground := Go.Ground.phase }, { on := 11, ground := Go.Ground.phase }, { on := 12, ground := Go.Ground.phase }, { on := 13, ground := Go.Ground.phase }, { on := 14, ground := Go.Ground.phase }, { on := 15, ground := Go.Ground.phase }, { on := 16, ground := Go.Ground.phase }, { on := 17, ground := Go.Ground.phase }, { on := 18, ground := Go.Ground.phase }, { on := 19, ground := Go.Ground.phase }, { on := 20, ground := Go.Ground.phase }], guard := Option.none }) (v := ?_) rfl (by kernel_rfl) (by kernel_rfl) (by kernel_rfl) (fun _ _ _ h => h) (Or.inl ⟨by rfl, ?_⟩) hHeld ?_
                  rotate_left
                  · intro w hSw
                    try dsimp only at hSw
                    go_simp
                    try (with_reducible rfl)
                  simp only [Act.put, List.setIfInBounds_toArray, List.set_cons_zero, List.set_cons_succ]
                  refine wpAnyH_ready (rs := [22]) (by kernel_rfl) (by decide) ?_
                  refine AllReadyH.cons (o := { dst := Option.none, op := Go.Op.store 31 (Go.Operand.tmp 42) (Go.Operand.tmp 41), type := 0, pos := "l09_commit.go:77", after := #[{ on := 21, ground := Go.Ground.data }, { on := 20, ground := Go.Ground.data }, { on := 20, ground := Go.Ground.chain }, { on := 0, ground := Go.Ground.phase }, { on := 1, ground := Go.Ground.phase }, { on := 2, ground := Go.Ground.phase }, { on := 3, ground := Go.Ground.phase }, { on := 4, ground := Go.Ground.phase }, { on := 5, ground := Go.Ground.phase }, { on := 6, ground := Go.Ground.phase }, { on := 7, ground := Go.Ground.phase }, { on := 8, ground := Go.Ground.phase }, { on := 9, ground := Go.Ground.phase }, { on := 10, ground := Go.Ground.phase }, { on := 11, ground := Go.Ground.phase }, { on := 12, ground := Go.Ground.phase }, { on := 13, ground := Go.Ground.phase }, { on := 14, ground := Go.Ground.phase }, { on := 15, ground := Go.Ground.phase }, { on := 16, ground := Go.Ground.phase }, { on := 17, ground := Go.Ground.phase }, { on := 18, ground := Go.Ground.phase }, { on := 19, ground := Go.Ground.phase }, { on := 20, ground := Go.Ground.phase }], guard := Option.none }) rfl (fun K hK => ?_) AllReadyH.nil
                  have x9 := HX9.out.cell 3 rfl
                  have f9 := HX9.out.frozen 3
                  go_simp
                  refine hK.out _ _ (s10) (fun hHeld => ?_)
                  clear hK K
                  try simp only [Act.put, List.setIfInBounds_toArray, List.set_cons_zero, List.set_cons_succ]
                  refine wpAnyH_done (by kernel_rfl) ?_ _
                  go_wp2
                  go_roundw
                  case rel =>
                    have R : ∃ (k' : Nat) (l' : List Sg) (q' : Value), k' ≤ ids.length ∧ Value.int .i64 ((k : Int) + 1) = .int .i64 k' ∧ Hid (l'.length = k' ∧ ∀ z ∈ l', z.s.size ≤ 8) ∧ Hid (RC w1 (w9.setCell ⟨w1.heap.size, 3, none⟩ (.slice a9 (l.length + 1) c9)) w1.heap.size ⟨h, rd, I, l'⟩ q') := ⟨k + 1, l ++ [⟨z, S⟩], _, by omega, by go_num, ⟨by simp; exact HLn.out.1, fun y hy => by (rcases List.mem_append.1 hy with hy | hy; exact HLn.out.2 y hy; simp at hy; subst hy; exact hgs)⟩, HF⟩
                    first | exact R | ((repeat apply Exists.intro); exact ⟨R, rfl⟩)
                  case measure => simp [intOf]; omega
                · have HA8 : Hid (Below w8.heap.size w8 (w8.alloc (.cells #[.int .i64 z, .string S] 95))) := below_one _ _
                  have HYa : Hid (RC w1 (w8.alloc (.cells #[.int .i64 z, .string S] 95)) w1.heap.size ⟨h, rd, I, l⟩ (.slice qa l.length qc)) := HY8.out.below HA8.out
                  have s8 := HCk.out _ HYa.out.2.2
                  go_simp
                  refine hK.out _ _ (s8) (fun hHeld => ?_)
                  clear hK K
                  try simp only [Act.put, List.setIfInBounds_toArray, List.set_cons_zero, List.set_cons_succ]
                  refine wpAnyH_ready (rs := [1]) (by kernel_rfl) (by decide) ?_
                  refine AllReadyH.cons (o := { dst := Option.some 22, op := Go.Op.load 31 (Go.Operand.tmp 21), type := 31, pos := "l09_commit.go:77", after := #[{ on := 0, ground := Go.Ground.data }], guard := Option.none }) rfl (fun K hK => ?_) AllReadyH.nil
                  have c3 := HYa.out.1.cell 3 rfl
                  go_simp
                  refine hK.out _ _ (s8) (fun hHeld => ?_)
                  clear hK K
                  try simp only [Act.put, List.setIfInBounds_toArray, List.set_cons_zero, List.set_cons_succ]
                  refine wpAnyH_ready (rs := [20]) (by kernel_rfl) (by decide) ?_
                  refine AllReadyH.cons (o := { dst := Option.some 41, op := Go.Op.call { callee := Go.Callee.builtin Go.Builtin.append, args := #[Go.Operand.tmp 22, Go.Operand.tmp 40], argTypes := #[31, 31] }, type := 31, pos := "l09_commit.go:77", after := #[{ on := 1, ground := Go.Ground.data }, { on := 19, ground := Go.Ground.data }, { on := 17, ground := Go.Ground.chain }], guard := Option.none }) rfl (fun K hK => ?_) AllReadyH.nil
                  have HO8 : Hid (OwnS (w8.alloc (.cells #[.int .i64 z, .string S] 95)) (w1.heap.size + 1) (.slice qa l.length qc) l) := HYa.out.2.1
                  have HC8 : Hid (_) := one_sg w8 ⟨z, S⟩ w8.heap.size rfl
                  have hg8 : w1.heap.size < w8.heap.size := HY8.out.1.lt
                  refine step_append_row (by rfl) _ _ 31 (by rfl) (w1.heap.size + 1) 95 i0 (.agg #[.int .i64 0, .string ⟨#[]⟩]) 2 24 Tryz.underlying31 hinf hz0 hz1 hz2 rfl (by decide) _ _ _ (by rfl) HO8.out ⟨w8.heap.size, 0, none⟩ 1 1 (sgs [⟨z, S⟩]) (by rfl) (by rfl) HC8.out (sgs_one _) (by unfold maxLen; omega) (by omega) (by simp; omega) ?_
                  intro v9 w9 hown9 hgrow9 _
                  obtain ⟨a9, c9, rfl⟩ := own_shape hown9
                  have HX9 : Hid (Blk w9 w1.heap.size [.int .i64 h, .int .i64 rd, .string I, .slice qa l.length qc] 33) := HYa.out.1.grown hgrow9 (fun e => by have := (HYa.out.2.1.lt _ e).1; omega)
                  have HF : Hid (RC w1 (w9.setCell ⟨w1.heap.size, 3, none⟩ (.slice a9 (l.length + 1) c9)) w1.heap.size ⟨h, rd, I, l ++ [⟨z, S⟩]⟩ (.slice a9 (l.length + 1) c9)) := HY8.out.app HA8.out hgrow9 hown9
                  have s9 : w9.cell? ⟨b, o + k, none⟩ = some (.int .i64 z) := by
                    have q9 := hgrow9.block b (by simp; omega) (fun e => by have := (HY8.out.2.1.lt _ e.symm).1; omega)
                    rw [World.cell?_of_block (a := ⟨b, o + k, none⟩) q9]; exact s8
                  have s10 := HCk.out _ HF.out.2.2
                  clear hown9 hgrow9
                  refine hK.out _ _ (s9) (fun hHeld => ?_)
                  clear hK K
                  try simp only [Act.put, List.setIfInBounds_toArray, List.set_cons_zero, List.set_cons_succ]
                  refine wpAnyH_take (i := 21) (oi := { dst := Option.some 42, op := Go.Op.fieldAddr 33 (Go.Operand.tmp 7) 3, type := 0, pos := "l09_commit.go:77", after := #[{ on := 0, ground := Go.Ground.phase }, { on := 1, ground := Go.Ground.phase }, { on := 2, ground := Go.Ground.phase }, { on := 3, ground := Go.Ground.phase }, { on := 4, ground := Go.Ground.phase }, { on := 5, ground := Go.Ground.phase }, { on := 6, ground := Go.Ground.phase }, { on := 7, ground := Go.Ground.phase }, { on := 8, ground := Go.Ground.phase }, { on := 9, ground := Go.Ground.phase }, { on := 10, ground := Go.Ground.phase }, { on := 11, ground := Go.Ground.phase }, { on := 12, ground := Go.Ground.phase }, { on := 13, ground := Go.Ground.phase }, { on := 14, ground := Go.Ground.phase }, { on := 15, ground := Go.Ground.phase }, { on := 16, ground := Go.Ground.phase }, { on := 17, ground := Go.Ground.phase }, { on := 18, ground := Go.Ground.phase }, { on := 19, ground := Go.Ground.phase }, { on := 20, ground := Go.Ground.phase }], guard := Option.none }) (v := ?_) rfl (by kernel_rfl) (by kernel_rfl) (by kernel_rfl) (fun _ _ _ h => h) (Or.inl ⟨by rfl, ?_⟩) hHeld ?_
                  rotate_left
                  · intro w hSw
                    try dsimp only at hSw
                    go_simp
                    try (with_reducible rfl)
                  simp only [Act.put, List.setIfInBounds_toArray, List.set_cons_zero, List.set_cons_succ]
                  refine wpAnyH_ready (rs := [22]) (by kernel_rfl) (by decide) ?_
                  refine AllReadyH.cons (o := { dst := Option.none, op := Go.Op.store 31 (Go.Operand.tmp 42) (Go.Operand.tmp 41), type := 0, pos := "l09_commit.go:77", after := #[{ on := 21, ground := Go.Ground.data }, { on := 20, ground := Go.Ground.data }, { on := 20, ground := Go.Ground.chain }, { on := 0, ground := Go.Ground.phase }, { on := 1, ground := Go.Ground.phase }, { on := 2, ground := Go.Ground.phase }, { on := 3, ground := Go.Ground.phase }, { on := 4, ground := Go.Ground.phase }, { on := 5, ground := Go.Ground.phase }, { on := 6, ground := Go.Ground.phase }, { on := 7, ground := Go.Ground.phase }, { on := 8, ground := Go.Ground.phase }, { on := 9, ground := Go.Ground.phase }, { on := 10, ground := Go.Ground.phase }, { on := 11, ground := Go.Ground.phase }, { on := 12, ground := Go.Ground.phase }, { on := 13, ground := Go.Ground.phase }, { on := 14, ground := Go.Ground.phase }, { on := 15, ground := Go.Ground.phase }, { on := 16, ground := Go.Ground.phase }, { on := 17, ground := Go.Ground.phase }, { on := 18, ground := Go.Ground.phase }, { on := 19, ground := Go.Ground.phase }, { on := 20, ground := Go.Ground.phase }], guard := Option.none }) rfl (fun K hK => ?_) AllReadyH.nil
                  have x9 := HX9.out.cell 3 rfl
                  have f9 := HX9.out.frozen 3
                  go_simp
                  refine hK.out _ _ (s10) (fun hHeld => ?_)
                  clear hK K
                  try simp only [Act.put, List.setIfInBounds_toArray, List.set_cons_zero, List.set_cons_succ]
                  refine wpAnyH_done (by kernel_rfl) ?_ _
                  go_wp2
                  go_roundw
                  case rel =>
                    have R : ∃ (k' : Nat) (l' : List Sg) (q' : Value), k' ≤ ids.length ∧ Value.int .i64 ((k : Int) + 1) = .int .i64 k' ∧ Hid (l'.length = k' ∧ ∀ z ∈ l', z.s.size ≤ 8) ∧ Hid (RC w1 (w9.setCell ⟨w1.heap.size, 3, none⟩ (.slice a9 (l.length + 1) c9)) w1.heap.size ⟨h, rd, I, l'⟩ q') := ⟨k + 1, l ++ [⟨z, S⟩], _, by omega, by go_num, ⟨by simp; exact HLn.out.1, fun y hy => by (rcases List.mem_append.1 hy with hy | hy; exact HLn.out.2 y hy; simp at hy; subst hy; exact hgs)⟩, HF⟩
                    first | exact R | ((repeat apply Exists.intro); exact ⟨R, rfl⟩)
                  case measure => simp [intOf]; omega
      · have hlt0 : ¬ (k : Int) < (ids.length : Int) := by omega
        have hkl : k = ids.length := by omega
        subst hkl
        have x0 := HY.out.1.cell 0 rfl
        have x1 := HY.out.1.cell 1 rfl
        have x2 := HY.out.1.cell 2 rfl
        have x3 := HY.out.1.cell 3 rfl
        have HRr : Hid (Blk wr (w.heap.size + 1) [.int .i64 0, .int .i64 0, .string ⟨#[]⟩, .slice none 0 0] 33) := HR1.out.below HY.out.2.2 hww1
        have HBr : Hid (Below w.heap.size w wr) := HB1.out.trans (HY.out.2.2.mono HB1.out.size)
        have HO : Hid (OwnS wr (w1.heap.size + 1) q l) := HY.out.2.1
        obtain ⟨qa, qc, rfl⟩ := own_shape HO.out
        have HR5 := (((HRr.out.set 0 (.int .i64 h)).set 1 (.int .i64 rd)).set 2 (.string I)).set 3 (.slice qa l.length qc)
        have HB5 : Hid (Below w.heap.size w ((((wr.setCell ⟨w.heap.size + 1, 0, none⟩ (.int .i64 h)).setCell ⟨w.heap.size + 1, 1, none⟩ (.int .i64 rd)).setCell ⟨w.heap.size + 1, 2, none⟩ (.string I)).setCell ⟨w.heap.size + 1, 3, none⟩ (.slice qa l.length qc))) :=
          (((HBr.out.setCell (Nat.le_succ _) _).setCell (Nat.le_succ _) _).setCell (Nat.le_succ _) _).setCell (Nat.le_succ _) _
        have HO5 : Hid (OwnS ((((wr.setCell ⟨w.heap.size + 1, 0, none⟩ (.int .i64 h)).setCell ⟨w.heap.size + 1, 1, none⟩ (.int .i64 rd)).setCell ⟨w.heap.size + 1, 2, none⟩ (.string I)).setCell ⟨w.heap.size + 1, 3, none⟩ (.slice qa l.length qc)) w.heap.size (.slice qa l.length qc) l) :=
          own_setT (own_setT (own_setT (own_setT HO.out (Nat.le_refl _) (by omega)) (Nat.le_refl _) (by omega)) (Nat.le_refl _) (by omega)) (by omega) (by omega)
        have p0 := HRr.out.cell 0 rfl
        have p1 := HRr.out.cell 1 rfl
        have p2 := HRr.out.cell 2 rfl
        have p3 := HRr.out.cell 3 rfl
        have pf := fun j => HRr.out.frozen j
        go_wp2
        clear x0 x1 x2 x3 p0 p1 p2 p3
        have y0 := HR5.cell 0 rfl
        have y1 := HR5.cell 1 rfl
        have y2 := HR5.cell 2 rfl
        have y3 := HR5.cell 3 rfl
        refine bodyPost_ret (v := .agg #[.int .i64 h, .int .i64 rd, .string I, .slice qa l.length qc]) ?_ rfl ⟨l, _, rfl, HLn, HO5, HB5⟩
        generalize ((((wr.setCell _ _).setCell _ _).setCell _ _).setCell _ _ : World) = W at *
        clear HB5 HR5 HO5
        simp [results, Tryz.results66, go_sem, y0, y1, y2, y3]
end Go.Proofs.YtajfmjgaaapjeaaGreatDoor
namespace Go.Proofs.YtajfmjgaaapjeaaGreatDoor
open Go.RowKit
open Num
set_option linter.unusedVariables false
/-- What is drawn of a header, as far as it is asked. -/
def DrH (x : H) : Prop := 0 ≤ x.h ∧ x.h ≤ 1000001 ∧ -1 ≤ x.t ∧ x.t ≤ 1000001 ∧ x.a.size ≤ 40 ∧ x.v.size ≤ 40 ∧ x.n.size ≤ 40 ∧ x.d.size ≤ 40
theorem gr_below {w wx wy : World} {r : Option Nat} (h : w.grownBy wx r) (hb : Below w.heap.size wx wy) : w.grownBy wy r :=
  ⟨hb.os.trans h.os, hb.tape.trans h.tape, hb.output.trans h.output, Nat.le_trans h.size hb.size, fun k hk hne => (hb.block k hk).trans (h.block k hk hne)⟩
theorem grown_alloc' {a w : World} {r : Option Nat} (h : a.grownBy w r) (o : Obj) : a.grownBy (w.alloc o) r :=
  grown_trans h ⟨rfl, rfl, rfl, by simp, fun k hk _ => Below.heap_alloc w o k hk⟩
/-- A header that is being drawn: it lies in block b, the result's block c is as it was laid. -/
def HSt (w wx : World) (g B b c : Nat) (x : H) : Prop :=
  Blk wx b (hcs x).toList 27 ∧ DrH x ∧ DS wx g B ∧ w.grownBy wx (some g) ∧ Blk wx c [.int .i64 0, .int .i64 0, .string ⟨#[]⟩, .string ⟨#[]⟩, .string ⟨#[]⟩, .string ⟨#[]⟩] 27 ∧ w.heap.size ≤ b ∧ w.heap.size ≤ c ∧ b ≠ c ∧ g < w.heap.size ∧ B ≤ w.heap.size
theorem HSt.call {w wx wy : World} {g B b c : Nat} {x : H} (h : HSt w wx g B b c x) (hd : DS wy g B) (hg : wx.grownBy wy (some g)) : HSt w wy g B b c x := by
  obtain ⟨h1, h2, h3, h4, h5, h6, h7, h8, h9, h10⟩ := h
  exact ⟨h1.grown hg (by simp; omega), h2, hd, grown_trans h4 hg, h5.grown hg (by simp; omega), h6, h7, h8, h9, h10⟩
theorem HSt.below {w wx wy : World} {g B b c : Nat} {x : H} (h : HSt w wx g B b c x) (hb : Below wx.heap.size wx wy) : HSt w wy g B b c x := by
  obtain ⟨h1, h2, h3, h4, h5, h6, h7, h8, h9, h10⟩ := h
  have hs : w.heap.size ≤ wx.heap.size := h4.size
  refine ⟨h1.below hb h1.lt, h2, h3.below (hb.mono (by omega)), ⟨hb.os.trans h4.os, hb.tape.trans h4.tape, hb.output.trans h4.output, Nat.le_trans h4.size hb.size, fun k hk hne => ?_⟩, h5.below hb h5.lt, h6, h7, h8, h9, h10⟩
  rw [hb.block k (by omega)]; exact h4.block k hk hne
theorem HSt.alloc {w wx : World} {g B b c : Nat} {x : H} (h : HSt w wx g B b c x) (o : Obj) : HSt w (wx.alloc o) g B b c x := h.below ((Below.refl _ _).alloc (Nat.le_refl _) _)
theorem HSt.set {w wx : World} {g B b c : Nat} {x : H} (h : HSt w wx g B b c x) (k : Nat) (u : Value) (y : H) (hy : (hcs x).toList.set k u = (hcs y).toList) (hr : DrH y) : HSt w (wx.setCell ⟨b, k, none⟩ u) g B b c y := by
  obtain ⟨h1, h2, h3, h4, h5, h6, h7, h8, h9, h10⟩ := h
  refine ⟨hy ▸ h1.set k u, hr, h3.below ((Below.refl _ _).setCell (show B ≤ b by omega) u), ?_, h5.other k u (fun e => h8 e.symm), h6, h7, h8, h9, h10⟩
  exact ⟨h4.os, h4.tape, h4.output, by simpa using h4.size, fun j hj hne => (heap_setCell_other wx ⟨b, k, none⟩ j u (show j ≠ b by omega)).trans (h4.block j hj hne)⟩
end Go.Proofs.YtajfmjgaaapjeaaGreatDoor
namespace Go.Proofs.YtajfmjgaaapjeaaGreatDoor
open Go.RowKit
open Num
set_option linter.unusedVariables false
theorem own_else {w w' : World} {B g : Nat} {e : TypeId} {size : Nat} {v : Value} {n : Nat} {xs : List Value} (h : w.ownsRow B e size v n xs) (hg : w.grownBy w' (some g)) (hne : ∀ j, v.ownBlock = some j → j ≠ g) : w'.ownsRow B e size v n xs := by
  obtain ⟨h1, h2⟩ := h
  refine ⟨h1, ?_⟩
  rcases h2 with h2 | ⟨g', cap, cur, hv, hgB, hh, r⟩
  · exact Or.inl h2
  · have hn : g' ≠ g := hne g' (by rw [hv]; rfl)
    exact Or.inr ⟨g', cap, cur, hv, hgB, by rw [hg.block g' ((Array.getElem?_eq_some_iff.1 hh).1) (fun e => by injection e with e; exact hn e)]; exact hh, r⟩
theorem own_ne {w : World} {B n b : Nat} {q : Value} {xs cs : List Value} (h : w.ownsRow B 95 2 q n xs) (hb : Blk w b cs 33) : ∀ j, q.ownBlock = some j → j ≠ b := by
  intro j hj e
  subst e
  rcases h.2 with ⟨rfl, _⟩ | ⟨g', cap, cur, rfl, _, hh, _⟩
  · cases hj
  · have e : g' = j := by simpa [Value.ownBlock] using hj
    subst e
    unfold Blk at hb
    rw [hh] at hb
    simp at hb
/-- A commit that is being drawn: its block, its row behind what lay. -/
def XS (wT w : World) (g B b : Nat) (x : Ct) (q : Value) : Prop :=
  Blk w b [.int .i64 x.h, .int .i64 x.r, .string x.i, q] 33 ∧ OwnS w wT.heap.size q x.l ∧ DS w g B ∧ wT.grownBy w (some g) ∧ wT.heap.size ≤ b ∧ g < wT.heap.size ∧ B ≤ wT.heap.size
theorem XS.call {wT w w' : World} {g B b : Nat} {x : Ct} {q : Value} (h : XS wT w g B b x q) (hd : DS w' g B) (hg : w.grownBy w' (some g)) : XS wT w' g B b x q := by
  obtain ⟨h1, h2, h3, h4, h5, h6, h7⟩ := h
  exact ⟨h1.grown hg (by simp; omega), own_gr h2 hg (by omega), hd, grown_trans h4 hg, h5, h6, h7⟩
theorem XS.below {wT w w' : World} {g B b : Nat} {x : Ct} {q : Value} (h : XS wT w g B b x q) (hb : Below w.heap.size w w') : XS wT w' g B b x q := by
  obtain ⟨h1, h2, h3, h4, h5, h6, h7⟩ := h
  have hs := h4.size
  exact ⟨h1.below hb h1.lt, own_keep h2 hb, h3.below (hb.mono (by omega)), gr_below h4 (hb.mono hs), h5, h6, h7⟩
theorem XS.set {wT w : World} {g B b : Nat} {x : Ct} {q : Value} (h : XS wT w g B b x q) (k : Nat) (u : Value) (y : Ct) (hc : ([.int .i64 x.h, .int .i64 x.r, .string x.i, q] : List Value).set k u = [.int .i64 y.h, .int .i64 y.r, .string y.i, q]) (hl : y.l = x.l) : XS wT (w.setCell ⟨b, k, none⟩ u) g B b y q := by
  obtain ⟨h1, h2, h3, h4, h5, h6, h7⟩ := h
  have hb : Below wT.heap.size w (w.setCell ⟨b, k, none⟩ u) := (Below.refl _ _).setCell (show wT.heap.size ≤ b from h5) u
  exact ⟨hc ▸ h1.set k u, by rw [hl]; exact own_else h2 (gr_set w b k u) (own_ne h2 h1), h3.below (hb.mono h7), gr_below h4 hb, h5, h6, h7⟩
theorem XS.app {wT w w1 w4 : World} {g B b n : Nat} {x : Ct} {q v4 : Value} {m : List Sg} (h : XS wT w g B b x q) (hb : Below w.heap.size w w1) (hg : w1.grownBy w4 q.ownBlock) (hn : n = (x.l ++ m).length) (ho : w4.ownsRow wT.heap.size 95 2 v4 n (sgs x.l ++ sgs m)) :
    XS wT (w4.setCell ⟨b, 3, none⟩ v4) g B b ⟨x.h, x.r, x.i, x.l ++ m⟩ v4 := by
  obtain ⟨h1, h2, h3, h4, h5, h6, h7⟩ := h.below hb
  have hs := h4.size
  have hne := own_ne h2 h1
  have hB1 := h1.grown hg (fun e => hne b e rfl)
  have ho' : OwnS w4 wT.heap.size v4 (x.l ++ m) := by unfold OwnS; rw [sgs_append, ← hn]; exact ho
  have hk : Below wT.heap.size w1 (w4.setCell ⟨b, 3, none⟩ v4) := ((Below.refl _ _).grown hg hs (fun j hj => (h2.lt j hj).1)).setCell (show wT.heap.size ≤ b from h5) _
  exact ⟨hB1.set 3 v4, own_else ho' (gr_set w4 b 3 v4) (own_ne ho' hB1), h3.below (hk.mono h7), gr_below h4 hk, h5, h6, h7⟩
theorem sgs_set : ∀ (l : List Sg) (t : ByteArray) (z : Sg), (sgs (z :: l)).set 1 (.string t) = sgs (⟨z.v, t⟩ :: l) := fun l t z => by simp [sgs, sgc]
theorem XS.spoil {wT w : World} {g B b g' cap : Nat} {h r : Int} {i t : ByteArray} {z : Sg} {l : List Sg} (hx : XS wT w g B b ⟨h, r, i, z :: l⟩ (.slice (some ⟨g', 0, none⟩) (l.length + 1) cap)) : XS wT (w.setCell ⟨g', 1, none⟩ (.string t)) g B b ⟨h, r, i, ⟨z.v, t⟩ :: l⟩ (.slice (some ⟨g', 0, none⟩) (l.length + 1) cap) := by
  obtain ⟨h1, h2, h3, h4, h5, h6, h7⟩ := hx
  have hlt := h2.lt g' rfl
  have hne := own_ne h2 h1 g' rfl
  have hb : Below wT.heap.size w (w.setCell ⟨g', 1, none⟩ (.string t)) := (Below.refl _ _).setCell (show wT.heap.size ≤ g' from hlt.1) _
  refine ⟨h1.other 1 _ (fun e => hne e.symm), ?_, h3.below (hb.mono h7), gr_below h4 hb, h5, h6, h7⟩
  obtain ⟨k1, k2⟩ := h2
  refine ⟨by rw [← sgs_set]; rw [List.length_set]; exact k1, ?_⟩
  rcases k2 with ⟨k2, _⟩ | ⟨g2, cap', cur, hv, hgB, hh, r3, r4, r5, r6⟩
  · cases k2
  · simp only [Value.slice.injEq, Option.some.injEq, Addr.mk.injEq, and_true] at hv
    obtain ⟨rfl, _, rfl⟩ := hv
    refine Or.inr ⟨g', cap, cur.setIfInBounds 1 (.string t), rfl, hgB, ?_, r3, r4, by rw [Array.size_setIfInBounds]; exact r5, ?_⟩
    · rw [heap_setCell_same w g' 1 _ 95 _ hh]
    · show List.take ((l.length + 1) * 2) (cur.setIfInBounds 1 (.string t)).toList = sgs (⟨z.v, t⟩ :: l)
      rw [Array.toList_setIfInBounds, List.take_set, show List.take ((l.length + 1) * 2) cur.toList = sgs (z :: l) from r6]
      exact sgs_set _ _ _
/-- What is drawn of a commit. -/
def DrC (x : Ct) : Prop := x.i.size ≤ 1003 ∧ x.l.length ≤ 13 ∧ ∀ z ∈ x.l, z.s.size ≤ 1003
theorem size_headI (y : H) : (headI y).size ≤ 8 := by
  unfold headI
  cases hOk y
  · exact Nat.zero_le _
  · exact Nat.le_of_eq (size_shortB _)
theorem size_hashV (l : List V) : (hashV l).size ≤ 8 := by
  unfold hashV
  cases vOk l
  · exact Nat.zero_le _
  · exact Nat.le_of_eq (size_shortB _)
theorem VO.gr {w w' : World} {g : Nat} {B : Nat} {a : Option Addr} {l : List V} (h : VO w a l) (hg : w.grownBy w' (some g)) (ha : ∀ b o, a = some ⟨b, o, none⟩ → b ≠ g) : VO w' a l := by
  rcases h with h | ⟨b, o, rfl, h⟩
  · exact .inl h
  · refine .inr ⟨b, o, rfl, fun j hj => ?_⟩
    obtain ⟨k1, k2⟩ := h j hj
    have hlt := World.block_lt_of_cell? w _ k1
    have e := hg.block b hlt (fun e => by injection e with e; exact ha b o rfl e)
    rw [World.cell?_of_block (a := ⟨b, o + j * 2, none⟩) e, World.cell?_of_block (a := ⟨b, o + j * 2 + 1, none⟩) e]
    exact ⟨k1, k2⟩
theorem OwnV.sl {w : World} {B : Nat} {v : Value} {l : List V} (h : OwnV w B v l) : ∃ a cap, v = .slice a l.length cap ∧ VO w a l ∧ ∀ b o, a = some ⟨b, o, none⟩ → B ≤ b ∧ b < w.heap.size := by
  have h' := h
  rcases h.2 with ⟨rfl, hn⟩ | ⟨g, cap, cur, rfl, hB, hg, hnc, hcm, _⟩
  · exact ⟨none, 0, by rw [hn], .inl hn, fun b o e => by cases e⟩
  · refine ⟨some ⟨g, 0, none⟩, cap, rfl, .inr ⟨g, 0, rfl, fun j hj => ?_⟩, fun b o e => by have hl := h'.lt g rfl; simp at e; omega⟩
    obtain ⟨e1, e2⟩ := vals_at l j hj
    rw [Nat.zero_add, h'.cellAt (j * 2) (by omega), h'.cellAt (j * 2 + 1) (by omega), e1, e2]
    exact ⟨rfl, rfl⟩
/-- Numbers that are being drawn, a header ahead of them. -/
def AS (wT w : World) (g B b : Nat) (y : H) (q : Value) (zs : List Int) : Prop :=
  DS w g B ∧ wT.grownBy w (some g) ∧ OwnI w wT.heap.size q zs ∧ Blk w b (hcs y).toList 27 ∧ b < wT.heap.size ∧ b ≠ g ∧ g < wT.heap.size ∧ B ≤ wT.heap.size
theorem AS.call {wT w w' : World} {g B b : Nat} {y : H} {q : Value} {zs : List Int} (h : AS wT w g B b y q zs) (hd : DS w' g B) (hg : w.grownBy w' (some g)) : AS wT w' g B b y q zs := by
  obtain ⟨h1, h2, h3, h4, h5, h6, h7, h8⟩ := h
  exact ⟨hd, grown_trans h2 hg, own_gr h3 hg (by omega), h4.grown hg (by simp; omega), h5, h6, h7, h8⟩
theorem AS.below {wT w w' : World} {g B b : Nat} {y : H} {q : Value} {zs : List Int} (h : AS wT w g B b y q zs) (hb : Below w.heap.size w w') : AS wT w' g B b y q zs := by
  obtain ⟨h1, h2, h3, h4, h5, h6, h7, h8⟩ := h
  have hs := h2.size
  exact ⟨h1.below (hb.mono (by omega)), gr_below h2 (hb.mono hs), own_keep h3 hb, h4.below hb h4.lt, h5, h6, h7, h8⟩
theorem AS.app {wT w w1 w4 : World} {g B b n : Nat} {y : H} {q v4 : Value} {zs : List Int} {z : Int} (h : AS wT w g B b y q zs) (hb : Below w.heap.size w w1) (hg : w1.grownBy w4 q.ownBlock) (ho : OwnI w4 wT.heap.size v4 (zs ++ [z])) : AS wT w4 g B b y v4 (zs ++ [z]) := by
  obtain ⟨h1, h2, h3, h4, h5, h6, h7, h8⟩ := h.below hb
  have hs := h2.size
  have hk : Below wT.heap.size w1 w4 := (Below.refl _ _).grown hg hs (fun j hj => (h3.lt j hj).1)
  exact ⟨h1.below (hk.mono h8), gr_below h2 hk, ho, h4.below hk h5, h5, h6, h7, h8⟩
theorem own_nums {w : World} {B cap : Nat} {a : Option Addr} {zs : List Int} (h : OwnI w B (.slice a zs.length cap) zs) : Nms w a zs := by
  rcases h.2 with ⟨h2, hn⟩ | ⟨g', cap', cur, hv, hgB, hh, _⟩
  · exact .inl hn
  · have e : a = some ⟨g', 0, none⟩ := by simpa using congrArg (fun v => match v with | .slice a _ _ => a | _ => none) hv
    subst e
    exact .inr ⟨g', 0, rfl, OwnI.row h⟩
/-- The commit is made, and laid behind it. -/
theorem XS.lay {wT w w' : World} {g B b : Nat} {y : H} {qi q : Value} {zs : List Int} {l : List Sg} (h : AS wT w g B b y qi zs) (ho : OwnS w' w.heap.size q l) (hb : Below w.heap.size w w') (c r : Int) (i : ByteArray) :
    XS wT (w'.alloc (.cells #[.int .i64 c, .int .i64 r, .string i, q] 33)) g B w'.heap.size ⟨c, r, i, l⟩ q := by
  have hs := h.2.1.size
  have h' := (h.below hb).below (below_one w' (.cells #[.int .i64 c, .int .i64 r, .string i, q] 33))
  exact ⟨blk_new w' _ _, own_less (own_keep ho (below_one _ _)) hs, h'.1, h'.2.1, Nat.le_trans hs hb.size, h.2.2.2.2.2.2.1, h.2.2.2.2.2.2.2⟩
/-- The commit is made, its block was laid ahead. -/
theorem XS.put {wT w : World} {g B b : Nat} {q : Value} {l : List Sg} (hB : Blk w b [.int .i64 0, .int .i64 0, .string ⟨#[]⟩, .slice none 0 0] 33) (ho : OwnS w wT.heap.size q l) (hd : DS w g B) (hg : wT.grownBy w (some g)) (hb : wT.heap.size ≤ b) (hgT : g < wT.heap.size) (hBT : B ≤ wT.heap.size) (c r : Int) (i : ByteArray) :
    XS wT ((((w.setCell ⟨b, 0, none⟩ (.int .i64 c)).setCell ⟨b, 1, none⟩ (.int .i64 r)).setCell ⟨b, 2, none⟩ (.string i)).setCell ⟨b, 3, none⟩ q) g B b ⟨c, r, i, l⟩ q := by
  have b1 := hB.set 0 (.int .i64 c)
  have b2 := b1.set 1 (.int .i64 r)
  have b3 := b2.set 2 (.string i)
  have b4 := b3.set 3 q
  have o1 := own_else ho (gr_set w b 0 (.int .i64 c)) (own_ne ho hB)
  have o2 := own_else o1 (gr_set _ b 1 (.int .i64 r)) (own_ne o1 b1)
  have o3 := own_else o2 (gr_set _ b 2 (.string i)) (own_ne o2 b2)
  have o4 := own_else o3 (gr_set _ b 3 q) (own_ne o3 b3)
  have hk : Below wT.heap.size w ((((w.setCell ⟨b, 0, none⟩ (.int .i64 c)).setCell ⟨b, 1, none⟩ (.int .i64 r)).setCell ⟨b, 2, none⟩ (.string i)).setCell ⟨b, 3, none⟩ q) := ((((Below.refl _ _).setCell hb _).setCell hb _).setCell hb _).setCell hb _
  exact ⟨b4, o4, hd.below (hk.mono hBT), gr_below hg hk, hb, hgT, hBT⟩
/-- From block U on the worlds are alike. -/
def Abv (U : Nat) (w W : World) : Prop := ∀ k, U ≤ k → W.heap[k]? = w.heap[k]?
theorem Abv.refl (U : Nat) (w : World) : Abv U w w := fun _ _ => rfl
theorem Abv.set {U b : Nat} {w W : World} (h : Abv U w W) (hb : b < U) (k : Nat) (u : Value) : Abv U w (W.setCell ⟨b, k, none⟩ u) := fun j hj =>
  (heap_setCell_other W ⟨b, k, none⟩ j u (show j ≠ b by omega)).trans (h j hj)
theorem VO.abv {U : Nat} {w W : World} {a : Option Addr} {l : List V} (h : VO w a l) (hA : Abv U w W) (ha : ∀ b o, a = some ⟨b, o, none⟩ → U ≤ b) : VO W a l := by
  rcases h with h | ⟨b, o, rfl, h⟩
  · exact .inl h
  · refine .inr ⟨b, o, rfl, fun j hj => ?_⟩
    have e := hA b (ha b o rfl)
    rw [World.cell?_of_block (a := ⟨b, o + j * 2, none⟩) e, World.cell?_of_block (a := ⟨b, o + j * 2 + 1, none⟩) e]
    exact h j hj
theorem SO.abv {U : Nat} {w W : World} {a : Option Addr} {l : List Sg} (h : SO w a l) (hA : Abv U w W) (ha : ∀ b o, a = some ⟨b, o, none⟩ → U ≤ b) : SO W a l := by
  rcases h with h | ⟨b, o, rfl, h⟩
  · exact .inl h
  · refine .inr ⟨b, o, rfl, fun j hj => ?_⟩
    have e := hA b (ha b o rfl)
    rw [World.cell?_of_block (a := ⟨b, o + j * 2, none⟩) e, World.cell?_of_block (a := ⟨b, o + j * 2 + 1, none⟩) e]
    exact h j hj
theorem OwnS.sl {w : World} {B cap : Nat} {a : Option Addr} {l : List Sg} (h : OwnS w B (.slice a l.length cap) l) : SO w a l ∧ ∀ b o, a = some ⟨b, o, none⟩ → B ≤ b := by
  obtain ⟨a', cap', e, hO, _⟩ := OwnS.o h
  simp only [Value.slice.injEq, true_and] at e
  obtain ⟨rfl, rfl⟩ := e
  refine ⟨hO, fun b o e => ?_⟩
  subst e
  exact (h.lt b rfl).1
end Go.Proofs.YtajfmjgaaapjeaaGreatDoor
namespace Go.Proofs.YtajfmjgaaapjeaaGreatDoor
open Go.RowKit
open Num
set_option linter.unusedVariables false
theorem ds_at {w : World} {a : Option Addr} {L : List UInt8} {cap : Nat} (hl : CodeAt w w.heap.size a L) (hlen : L.length ≤ 1048576) (h0 : Int) :
    DS (w.alloc (.cells #[.slice a L.length cap, .int .i64 0, .int .i64 h0] 109)) w.heap.size (w.heap.size + 1) := by
  refine ⟨a, L, cap, ⟨0, h0⟩, hlen, heap_alloc_new _ _, CodeAt.kept hl (grown_alloc (grown_refl _ _) _), by omega, fun j hj => ?_⟩
  obtain ⟨b, off, e, hne, hc⟩ := hl j hj
  have := World.block_lt_of_cell? w _ hc
  exact ⟨b, off, e, by simp at this; omega⟩
/-- A cursor just made: it lies behind what lay. -/
theorem cur_d (a : Option Addr) (L : List UInt8) (cap : Nat) (w : World) (hl : CodeAt w w.heap.size a L) (hlen : L.length ≤ 1048576) :
    Calls Tryz.prog 30 #[.slice a L.length cap] w fun e w' => e = .returned (.pointer (some ⟨w.heap.size, 0, none⟩)) ∧ Hid (DS w' w.heap.size (w.heap.size + 1)) ∧ Hid (Below w.heap.size w w') ∧ w.heap.size + 1 ≤ w'.heap.size := by
  refine (new_any a L cap w hl hlen).mono ?_
  rintro e w1 ⟨rfl, hw1⟩
  refine ⟨rfl, ?_, ?_, ?_⟩
  · show DS _ _ _; rw [hw1]; exact ds_at hl hlen _
  · show Below _ _ _; rw [hw1]; exact (Below.refl _ _).alloc (Nat.le_refl _) _
  · rw [hw1]; simp
theorem below_gr {w w' wx : World} {B : Nat} (h : Below B w w') (hs : B ≤ w'.heap.size) (hg : w'.grownBy wx (some B)) : Below B w wx :=
  h.grown hg hs (fun k e => by injection e; omega)
/-- A trust that is being drawn: it lies in block b, the result's block c is as it was laid. -/
def TS (w wx : World) (g B b c : Nat) (p s : Int) : Prop :=
  Blk wx b [.int .i64 p, .int .i64 s] 25 ∧ DS wx g B ∧ w.grownBy wx (some g) ∧ Blk wx c [.int .i64 0, .int .i64 0] 25 ∧ w.heap.size ≤ b ∧ w.heap.size ≤ c ∧ b ≠ c ∧ g < w.heap.size ∧ B ≤ w.heap.size
theorem TS.call {w wx wy : World} {g B b c : Nat} {p s : Int} (h : TS w wx g B b c p s) (hd : DS wy g B) (hg : wx.grownBy wy (some g)) : TS w wy g B b c p s := by
  obtain ⟨h1, h3, h4, h5, h6, h7, h8, h9, h10⟩ := h
  exact ⟨h1.grown hg (by simp; omega), hd, grown_trans h4 hg, h5.grown hg (by simp; omega), h6, h7, h8, h9, h10⟩
theorem TS.below {w wx wy : World} {g B b c : Nat} {p s : Int} (h : TS w wx g B b c p s) (hb : Below wx.heap.size wx wy) : TS w wy g B b c p s := by
  obtain ⟨h1, h3, h4, h5, h6, h7, h8, h9, h10⟩ := h
  have hs : w.heap.size ≤ wx.heap.size := h4.size
  refine ⟨h1.below hb h1.lt, h3.below (hb.mono (by omega)), ⟨hb.os.trans h4.os, hb.tape.trans h4.tape, hb.output.trans h4.output, Nat.le_trans h4.size hb.size, fun k hk hne => ?_⟩, h5.below hb h5.lt, h6, h7, h8, h9, h10⟩
  rw [hb.block k (by omega)]; exact h4.block k hk hne
theorem TS.alloc {w wx : World} {g B b c : Nat} {p s : Int} (h : TS w wx g B b c p s) (o : Obj) : TS w (wx.alloc o) g B b c p s := h.below ((Below.refl _ _).alloc (Nat.le_refl _) _)
theorem TS.set {w wx : World} {g B b c : Nat} {p s p' s' : Int} (h : TS w wx g B b c p s) (k : Nat) (u : Value) (hy : ([.int .i64 p, .int .i64 s] : List Value).set k u = [.int .i64 p', .int .i64 s']) : TS w (wx.setCell ⟨b, k, none⟩ u) g B b c p' s' := by
  obtain ⟨h1, h3, h4, h5, h6, h7, h8, h9, h10⟩ := h
  refine ⟨hy ▸ h1.set k u, h3.below ((Below.refl _ _).setCell (show B ≤ b by omega) u), ?_, h5.other k u (fun e => h8 e.symm), h6, h7, h8, h9, h10⟩
  exact ⟨h4.os, h4.tape, h4.output, by simpa using h4.size, fun j hj hne => (heap_setCell_other wx ⟨b, k, none⟩ j u (show j ≠ b by omega)).trans (h4.block j hj hne)⟩
set_option maxHeartbeats 3200000 in
set_option maxRecDepth 100000 in
theorem trust_d (g B : Nat) (w : World) (hd : DS w g B) (hB : B ≤ w.heap.size) :
    Calls Tryz.prog 31 #[.pointer (some ⟨g, 0, none⟩)] w fun e w' => ∃ t : Tr, e = .returned (trV t) ∧ Hid (DS w' g B) ∧ Hid (w.grownBy w' (some g)) := by
  unfold trV
  have HC0 : Hid (Blk (w.alloc (.cells [.int .i64 0, .int .i64 0].toArray 25)) w.heap.size [.int .i64 0, .int .i64 0] 25) := blk_new w _ _
  have HD0 : Hid (DS (w.alloc (.cells [.int .i64 0, .int .i64 0].toArray 25)) g B) := hd.below ((Below.refl _ _).alloc hB _)
  have HG0 : Hid (w.grownBy (w.alloc (.cells [.int .i64 0, .int .i64 0].toArray 25)) (some g)) := grown_alloc' (grown_refl _ _) _
  have hg : g < w.heap.size := hd.lt'
  clear hd
  go_enter Tryz.func31, Tryz.ntmps31
  go_wp2_with fail
  generalize w.alloc (Obj.cells #[.int .i64 0, .int .i64 0] 25) = w0 at *
  refine (below_d g B 90 _ HD0.out (by omega)).mono ?_
  rintro e w1 ⟨y0, rfl, a0, a1, HD1, HG1⟩
  go_wp2_with fail
  refine (below_d g B 10 _ HD1.out (by omega)).mono ?_
  rintro e w2 ⟨y1, rfl, b0, b1, HD2, HG2⟩
  have HGa : Hid (w.grownBy w2 (some g)) := grown_trans (grown_trans HG0.out HG1.out) HG2.out
  have HCa : Hid (Blk w2 w.heap.size [.int .i64 0, .int .i64 0] 25) := (HC0.out.grown HG1.out (by simp; omega)).grown HG2.out (by simp; omega)
  clear HG0 HG1 HG2 HC0 HD0 HD1
  obtain ⟨B4, hB4⟩ : ∃ z, w2.heap.size = z := ⟨_, rfl⟩
  have HS : Hid (TS w (w2.alloc (.cells [.int .i64 (10 + y0), .int .i64 y1].toArray 25)) g B w2.heap.size w.heap.size (10 + y0) y1) :=
    ⟨blk_new w2 _ _, HD2.out.below ((Below.refl _ _).alloc (by have := HGa.out.size; omega) _), grown_alloc' HGa.out _, HCa.out.alloc _, HGa.out.size, Nat.le_refl _, by have := HCa.out.lt; omega, hg, hB⟩
  rw [hB4] at HS
  go_wp2_with fail
  generalize w2.alloc (Obj.cells #[Value.int .i64 (10 + y0), Value.int .i64 y1] 25) = w8 at *
  try rw [hB4]
  clear HGa HCa HD2 hB4
  refine (once_d g B 12 _ HS.out.2.1).mono ?_
  rintro e w9 ⟨b1, rfl, HD8, HG8⟩
  have HS8 : Hid (TS w w9 g B B4 w.heap.size (10 + y0) y1) := HS.out.call HD8.out HG8.out
  clear HS HD8 HG8
  rcases b1 with _ | _
  · go_wp2_with fail
    refine (once_d g B 12 _ HS8.out.2.1).mono ?_
    rintro e wk ⟨b2, rfl, HD9, HG9⟩
    have HS9 : Hid (TS w wk g B B4 w.heap.size (10 + y0) y1) := HS8.out.call HD9.out HG9.out
    clear HS8 HD9 HG9
    rcases b2 with _ | _
    · have x0 := HS9.out.1.cell 0 rfl
      have x1 := HS9.out.1.cell 1 rfl
      have p0 := HS9.out.2.2.2.1.cell 0 rfl
      have p1 := HS9.out.2.2.2.1.cell 1 rfl
      have pf := fun j => HS9.out.2.2.2.1.frozen j
      go_wp2
      have HR := (HS9.out.2.2.2.1.set 0 (.int .i64 (10 + y0))).set 1 (.int .i64 (y1))
      have HB5 : Below w.heap.size wk _ := ((Below.refl w.heap.size wk).setCell (p := ⟨w.heap.size, 0, none⟩) (Nat.le_refl _) (.int .i64 (10 + y0))).setCell (p := ⟨w.heap.size, 1, none⟩) (Nat.le_refl _) (.int .i64 (y1))
      clear x0 x1 p0 p1 pf
      have c0 := HR.cell 0 rfl
      have c1 := HR.cell 1 rfl
      have HDe := HS9.out.2.1.below (HB5.mono hB)
      have HGe := gr_below HS9.out.2.2.1 HB5
      refine bodyPost_ret (v := .agg #[.int .i64 (10 + y0), .int .i64 (y1)]) ?_ rfl ⟨⟨10 + y0, y1⟩, rfl, HDe, HGe⟩
      generalize ((wk.setCell _ _).setCell _ _ : World) = W at *
      clear HB5 HR HDe HGe
      simp [results, Tryz.results31, go_sem, c0, c1]
    · have HSa : Hid (TS w (wk.alloc (.cells (([-1, 1000, 1001] : List Int).map (Value.int .i64)).toArray 3)) g B B4 w.heap.size (10 + y0) y1) := HS9.out.alloc (.cells (([-1, 1000, 1001] : List Int).map (Value.int .i64)).toArray 3)
      have HZ : Hid ((wk.alloc (.cells (([-1, 1000, 1001] : List Int).map (Value.int .i64)).toArray 3)).heap[wk.heap.size]? = some (.cells (([-1, 1000, 1001] : List Int).map (Value.int .i64)).toArray 3 (0, 0))) := heap_alloc_new _ _
      have hne : wk.heap.size ≠ g := by have := HS9.out.2.1.lt'; omega
      clear HS9
      go_wp2_with fail
      refine (pick_d g wk.heap.size B [-1, 1000, 1001] _ HSa.out.2.1 HZ.out hne (by simp) (by simp)).mono ?_
      rintro e wp ⟨q, rfl, hq, HDa, HGa⟩
      have HSc : Hid (TS w wp g B B4 w.heap.size (10 + y0) y1) := HSa.out.call HDa.out HGa.out
      clear HSa HZ HDa HGa hne
      have HSd : Hid (TS w (wp.setCell ⟨B4, 1, none⟩ (.int .i64 q)) g B B4 w.heap.size (10 + y0) q) := HSc.out.set 1 _ rfl
      have s3 := HSc.out.1.cell 1 rfl
      have sf := HSc.out.1.frozen 1
      have x0 := HSd.out.1.cell 0 rfl
      have x1 := HSd.out.1.cell 1 rfl
      have p0 := HSd.out.2.2.2.1.cell 0 rfl
      have p1 := HSd.out.2.2.2.1.cell 1 rfl
      have pf := fun j => HSd.out.2.2.2.1.frozen j
      clear HSc
      go_wp2
      generalize wp.setCell ⟨B4, 1, none⟩ (Value.int IntKind.i64 q) = wl at *
      have HR := (HSd.out.2.2.2.1.set 0 (.int .i64 (10 + y0))).set 1 (.int .i64 q)
      have HB5 : Below w.heap.size wl _ := ((Below.refl w.heap.size wl).setCell (p := ⟨w.heap.size, 0, none⟩) (Nat.le_refl _) (.int .i64 (10 + y0))).setCell (p := ⟨w.heap.size, 1, none⟩) (Nat.le_refl _) (.int .i64 q)
      clear x0 x1 p0 p1 pf s3 sf
      have c0 := HR.cell 0 rfl
      have c1 := HR.cell 1 rfl
      have HDe := HSd.out.2.1.below (HB5.mono hB)
      have HGe := gr_below HSd.out.2.2.1 HB5
      refine bodyPost_ret (v := .agg #[.int .i64 (10 + y0), .int .i64 q]) ?_ rfl ⟨⟨10 + y0, q⟩, rfl, HDe, HGe⟩
      generalize ((wl.setCell _ _).setCell _ _ : World) = W at *
      clear HB5 HR HDe HGe
      simp [results, Tryz.results31, go_sem, c0, c1]
  · have HSa : Hid (TS w (w9.alloc (.cells (([0, 1, 100000, 100001] : List Int).map (Value.int .i64)).toArray 3)) g B B4 w.heap.size (10 + y0) y1) := HS8.out.alloc (.cells (([0, 1, 100000, 100001] : List Int).map (Value.int .i64)).toArray 3)
    have HZ : Hid ((w9.alloc (.cells (([0, 1, 100000, 100001] : List Int).map (Value.int .i64)).toArray 3)).heap[w9.heap.size]? = some (.cells (([0, 1, 100000, 100001] : List Int).map (Value.int .i64)).toArray 3 (0, 0))) := heap_alloc_new _ _
    have hne : w9.heap.size ≠ g := by have := HS8.out.2.1.lt'; omega
    clear HS8
    go_wp2_with fail
    refine (pick_d g w9.heap.size B [0, 1, 100000, 100001] _ HSa.out.2.1 HZ.out hne (by simp) (by simp)).mono ?_
    rintro e wp ⟨qz, rfl, hq, HDa, HGa⟩
    have HSb : Hid (TS w wp g B B4 w.heap.size (10 + y0) y1) := HSa.out.call HDa.out HGa.out
    clear HSa HZ HDa HGa hne
    have HQ : Hid (TS w (wp.setCell ⟨B4, 0, none⟩ (.int .i64 qz)) g B B4 w.heap.size qz y1) := HSb.out.set 0 _ rfl
    have s3 := HSb.out.1.cell 0 rfl
    have sf := HSb.out.1.frozen 0
    clear HSb
    go_wp2_with fail
    clear s3 sf
    generalize wp.setCell ⟨B4, 0, none⟩ (Value.int IntKind.i64 qz) = wq at *
    refine (once_d g B 12 _ HQ.out.2.1).mono ?_
    rintro e wk ⟨b2, rfl, HD9, HG9⟩
    have HS9 : Hid (TS w wk g B B4 w.heap.size (qz) y1) := HQ.out.call HD9.out HG9.out
    clear HQ HD9 HG9
    rcases b2 with _ | _
    · have x0 := HS9.out.1.cell 0 rfl
      have x1 := HS9.out.1.cell 1 rfl
      have p0 := HS9.out.2.2.2.1.cell 0 rfl
      have p1 := HS9.out.2.2.2.1.cell 1 rfl
      have pf := fun j => HS9.out.2.2.2.1.frozen j
      go_wp2
      have HR := (HS9.out.2.2.2.1.set 0 (.int .i64 (qz))).set 1 (.int .i64 (y1))
      have HB5 : Below w.heap.size wk _ := ((Below.refl w.heap.size wk).setCell (p := ⟨w.heap.size, 0, none⟩) (Nat.le_refl _) (.int .i64 (qz))).setCell (p := ⟨w.heap.size, 1, none⟩) (Nat.le_refl _) (.int .i64 (y1))
      clear x0 x1 p0 p1 pf
      have c0 := HR.cell 0 rfl
      have c1 := HR.cell 1 rfl
      have HDe := HS9.out.2.1.below (HB5.mono hB)
      have HGe := gr_below HS9.out.2.2.1 HB5
      refine bodyPost_ret (v := .agg #[.int .i64 (qz), .int .i64 (y1)]) ?_ rfl ⟨⟨qz, y1⟩, rfl, HDe, HGe⟩
      generalize ((wk.setCell _ _).setCell _ _ : World) = W at *
      clear HB5 HR HDe HGe
      simp [results, Tryz.results31, go_sem, c0, c1]
    · have HSa : Hid (TS w (wk.alloc (.cells (([-1, 1000, 1001] : List Int).map (Value.int .i64)).toArray 3)) g B B4 w.heap.size (qz) y1) := HS9.out.alloc (.cells (([-1, 1000, 1001] : List Int).map (Value.int .i64)).toArray 3)
      have HZ : Hid ((wk.alloc (.cells (([-1, 1000, 1001] : List Int).map (Value.int .i64)).toArray 3)).heap[wk.heap.size]? = some (.cells (([-1, 1000, 1001] : List Int).map (Value.int .i64)).toArray 3 (0, 0))) := heap_alloc_new _ _
      have hne : wk.heap.size ≠ g := by have := HS9.out.2.1.lt'; omega
      clear HS9
      go_wp2_with fail
      refine (pick_d g wk.heap.size B [-1, 1000, 1001] _ HSa.out.2.1 HZ.out hne (by simp) (by simp)).mono ?_
      rintro e wp ⟨q, rfl, hq, HDa, HGa⟩
      have HSc : Hid (TS w wp g B B4 w.heap.size (qz) y1) := HSa.out.call HDa.out HGa.out
      clear HSa HZ HDa HGa hne
      have HSd : Hid (TS w (wp.setCell ⟨B4, 1, none⟩ (.int .i64 q)) g B B4 w.heap.size (qz) q) := HSc.out.set 1 _ rfl
      have s3 := HSc.out.1.cell 1 rfl
      have sf := HSc.out.1.frozen 1
      have x0 := HSd.out.1.cell 0 rfl
      have x1 := HSd.out.1.cell 1 rfl
      have p0 := HSd.out.2.2.2.1.cell 0 rfl
      have p1 := HSd.out.2.2.2.1.cell 1 rfl
      have pf := fun j => HSd.out.2.2.2.1.frozen j
      clear HSc
      go_wp2
      generalize wp.setCell ⟨B4, 1, none⟩ (Value.int IntKind.i64 q) = wl at *
      have HR := (HSd.out.2.2.2.1.set 0 (.int .i64 (qz))).set 1 (.int .i64 q)
      have HB5 : Below w.heap.size wl _ := ((Below.refl w.heap.size wl).setCell (p := ⟨w.heap.size, 0, none⟩) (Nat.le_refl _) (.int .i64 (qz))).setCell (p := ⟨w.heap.size, 1, none⟩) (Nat.le_refl _) (.int .i64 q)
      clear x0 x1 p0 p1 pf s3 sf
      have c0 := HR.cell 0 rfl
      have c1 := HR.cell 1 rfl
      have HDe := HSd.out.2.1.below (HB5.mono hB)
      have HGe := gr_below HSd.out.2.2.1 HB5
      refine bodyPost_ret (v := .agg #[.int .i64 (qz), .int .i64 q]) ?_ rfl ⟨⟨qz, q⟩, rfl, HDe, HGe⟩
      generalize ((wl.setCell _ _).setCell _ _ : World) = W at *
      clear HB5 HR HDe HGe
      simp [results, Tryz.results31, go_sem, c0, c1]
set_option maxHeartbeats 3200000 in
set_option maxRecDepth 100000 in
theorem at_d (g B : Nat) (w : World) (hd : DS w g B) (hB : B ≤ w.heap.size) :
    Calls Tryz.prog 36 #[.pointer (some ⟨g, 0, none⟩)] w fun e w' => ∃ x : Int, e = .returned (.int .i64 x) ∧ -1 ≤ x ∧ x ≤ 1000001 ∧ Hid (DS w' g B) ∧ Hid (w.grownBy w' (some g)) := by
  have HD0 : Hid (DS w g B) := hd
  clear hd
  go_enter Tryz.func36, Tryz.ntmps36
  go_wp2_with fail
  refine (once_d g B 10 _ HD0.out).mono ?_
  rintro e w1 ⟨b1, rfl, HD1, HG1⟩
  clear HD0
  have hs1 : B ≤ w1.heap.size := Nat.le_trans hB HG1.out.size
  rcases b1 with _ | _
  · go_wp2_with fail
    refine (below_d g B 150 _ HD1.out (by omega)).mono ?_
    rintro e w2 ⟨x, rfl, a0, a1, HD2, HG2⟩
    have HG : Hid (w.grownBy w2 (some g)) := grown_trans HG1.out HG2.out
    clear HG1 HG2 HD1
    go_wp2
    go_ret
    exact ⟨_, rfl, by omega, by omega, HD2, HG⟩
  · have HDa : Hid (DS (w1.alloc (.cells (([-1, 1000000, 1000001] : List Int).map (Value.int .i64)).toArray 3)) g B) := HD1.out.below ((Below.refl _ _).alloc hs1 _)
    have HZ : Hid ((w1.alloc (.cells (([-1, 1000000, 1000001] : List Int).map (Value.int .i64)).toArray 3)).heap[w1.heap.size]? = some (.cells (([-1, 1000000, 1000001] : List Int).map (Value.int .i64)).toArray 3 (0, 0))) := heap_alloc_new _ _
    have hne : w1.heap.size ≠ g := by have := HD1.out.lt'; omega
    have HGa : Hid (w.grownBy (w1.alloc (.cells (([-1, 1000000, 1000001] : List Int).map (Value.int .i64)).toArray 3)) (some g)) := grown_alloc' HG1.out _
    clear HD1 HG1
    go_wp2_with fail
    refine (pick_d g w1.heap.size B [-1, 1000000, 1000001] _ HDa.out HZ.out hne (by simp) (by simp)).mono ?_
    rintro e w2 ⟨q, rfl, hq, HD2, HG2⟩
    have HG : Hid (w.grownBy w2 (some g)) := grown_trans HGa.out HG2.out
    have hq' := hq.out
    simp at hq'
    clear HDa HZ HGa HG2 hne
    go_wp2
    go_ret
    exact ⟨_, rfl, by omega, by omega, HD2, HG⟩
end Go.Proofs.YtajfmjgaaapjeaaGreatDoor
