/- Rows of signatures that a call owns; one more behind them, also as a step of a drawn region. Conditions: none of ours. -/
import Derived.Test.YtbpmjejmeaifbaaGreatDoorMC
import Derived.Test.YtbpmjejmeaifbaaGreatDoorSt
import Derived.Test.YtbpmjejmeaifbaaGreatDoorRw
import Derived.Maps.AppendAt
namespace Go.Proofs.YtbpmjejmeaifbaaGreatDoor
open Go.RowKit
open Num
set_option linter.unusedVariables false
def sgs (l : List Sg) : List Value := l.flatMap sgc
theorem sgs_length : ∀ l : List Sg, (sgs l).length = l.length * 2
  | [] => rfl
  | x :: l => by
    have := sgs_length l
    unfold sgs sgc at *
    simp only [List.flatMap_cons, List.length_append, List.length_cons, List.length_nil, this]; omega
theorem sgs_append (l m : List Sg) : sgs (l ++ m) = sgs l ++ sgs m := by simp [sgs]
theorem sgs_one : ∀ (l : List Sg), ∀ u ∈ sgs l, u.oneCell' = true := by
  intro l u hu
  unfold sgs sgc at hu
  simp only [List.mem_flatMap, List.mem_cons, List.not_mem_nil, or_false] at hu
  obtain ⟨x, _, h⟩ := hu
  rcases h with rfl | rfl <;> rfl
theorem sgs_at : ∀ (l : List Sg) (j : Nat) (hj : j < l.length), (sgs l)[j * 2]? = some (.int .i64 l[j].v) ∧ (sgs l)[j * 2 + 1]? = some (.string l[j].s)
  | x :: l, 0, _ => ⟨rfl, rfl⟩
  | x :: l, j + 1, hj => by
    have := sgs_at l j (by simpa using hj)
    have e : sgs (x :: l) = [.int .i64 x.v, .string x.s] ++ sgs l := by simp [sgs, sgc]
    rw [e, List.getElem?_append_right (by simp; omega), List.getElem?_append_right (by simp; omega)]
    simp only [List.length_cons, List.length_nil, List.getElem_cons_succ]
    rw [show (j + 1) * 2 - (0 + 1 + 1) = j * 2 from by omega, show (j + 1) * 2 + 1 - (0 + 1 + 1) = j * 2 + 1 from by omega]
    exact this
abbrev OwnS (w : World) (B : Nat) (v : Value) (l : List Sg) : Prop := w.ownsRow B 62 2 v l.length (sgs l)
theorem OwnS.o {w : World} {B : Nat} {v : Value} {l : List Sg} (h : OwnS w B v l) : ∃ a cap, v = .slice a l.length cap ∧ SO w a l ∧ l.length ≤ cap ∧ cap ≤ maxLen := by
  have h' := h
  rcases h.2 with ⟨rfl, hn⟩ | ⟨g, cap, cur, rfl, _, hg, hnc, hcm, _⟩
  · exact ⟨none, 0, by rw [hn], .inl hn, by omega, Nat.zero_le _⟩
  · refine ⟨_, cap, rfl, SAt.o fun j hj => ?_, hnc, hcm⟩
    obtain ⟨h1, h2⟩ := sgs_at l j hj
    have q1 := h'.cellAt (j * 2) (by omega)
    have q2 := h'.cellAt (j * 2 + 1) (by omega)
    simp only [Nat.zero_add]
    rw [q1, q2]
    simp [h1, h2]
theorem OwnS.nil (w : World) (B : Nat) : OwnS w B (.slice none 0 0) [] := ⟨rfl, .inl ⟨rfl, rfl⟩⟩
theorem own_snocS {w : World} {B : Nat} {v : Value} {l : List Sg} {x : Sg} (h : w.ownsRow B 62 2 v (l.length + 1) (sgs l ++ sgs [x])) : OwnS w B v (l ++ [x]) := by
  unfold OwnS
  rw [sgs_append, List.length_append]; exact h
theorem one_sg (w : World) (x : Sg) (g : Nat) (hg : g = w.heap.size) : ∀ j u, (sgs [x])[j]? = some u → (w.alloc (.cells #[.int .i64 x.v, .string x.s] 62)).cell? ((⟨g, 0, none⟩ : Addr).add j) = some u := by
  intro j u hj
  subst hg
  rw [add_at, cell_of_row _ _ j #[.int .i64 x.v, .string x.s] 62 (0, 0) (heap_alloc_new _ _)]
  rw [← hj]; simp [sgs, sgc]
theorem infoSf : ∃ i, Tryz.prog.info? 62 = some i ∧ i.zero = some (.agg #[.int .i64 0, .string ⟨#[]⟩]) ∧ i.size = 2 ∧ i.bytes = 24 :=
  info_parts (by kernel_rfl)
/-- append to a row that the call owns, as one step of a region that draws. -/
theorem step_append_row {P : Program} {ops : Array Oper} {o : Oper} {a : Act} {w : World} {K : Act → World → Prop} {Q : Exit → Act → World → Prop} {E : Prop} (hgd : o.guard = none) (s x : Operand) (t : TypeId)
    (ho : o.op = .call { callee := .builtin .append, args := #[s, x], argTypes := #[t, t] })
    (base : Nat) (e : TypeId) (i : TypeInfo) (z : Value) (size bytes : Nat) (ht : P.underlying t = some (.slice e)) (hi : P.info? e = some i) (hz : i.zero = some z)
    (hsize : i.size = size) (hby : i.bytes = bytes) (hzs : z.cells.size = size) (hsz : 0 < size)
    (v : Value) (n : Nat) (xs : List Value) (hs : a.eval s = v) (hown : w.ownsRow base e size v n xs)
    (ad : Addr) (m c : Nat) (news : List Value) (hx : a.eval x = .slice (some ad) m c) (hl : news.length = m * size) (hnews : ∀ j u, news[j]? = some u → w.cell? (ad.add j) = some u) (h1 : ∀ u ∈ news, u.oneCell' = true)
    (h63 : n + m ≤ maxLen) (hbytes : (n + m) * bytes ≤ 140737488355328) (hbase : base ≤ w.heap.size)
    (h : ∀ v' w', w'.ownsRow base e size v' (n + m) (xs ++ news) → w.grownBy w' v.ownBlock → (v'.ownBlock = v.ownBlock ∨ v'.ownBlock = some w.heap.size) → K (a.put o.dst v') w') :
    if Region.wanted o (yielded ops a.tmps) = true then Oper.wp P o a w K Q else E := by
  have hw : Region.wanted o (yielded ops a.tmps) = true := by simp [Region.wanted, hgd]
  rw [if_pos hw]
  obtain ⟨v', w', hr, h2, h3, h4, h5⟩ := run_append_own_at (P := P) w base t o.type e i z size bytes ht hi hz hsize hby hzs hsz v n xs hown ad m c news hl hnews h1 h63 hbytes hbase
  unfold Oper.wp execOp
  simp only [ho, resolve, invoke, builtin, Sem.run_bind, Sem.run_pure, Result.andThen_ok, List.map_toArray, List.map_cons, List.map_nil, hs, hx, hr]
  exact h v' w' h2 h3 h5
/-- A commit that is being read: its block, its row behind it; what lies below stays. -/
def RC (w0 W : World) (G : Nat) (y : Ct) (q : Value) : Prop := Blk W G [.int .i64 y.h, .int .i64 y.r, .string y.i, q] 29 ∧ OwnS W (G + 1) q y.l ∧ Below G w0 W
theorem RC.below {w0 W W' : World} {G : Nat} {y : Ct} {q : Value} (h : RC w0 W G y q) (hb : Below W.heap.size W W') : RC w0 W' G y q :=
  ⟨h.1.below hb h.1.lt, own_keep h.2.1 hb, h.2.2.trans (hb.mono (Nat.le_of_lt h.1.lt))⟩
theorem RC.app {w0 W w1 w4 : World} {G : Nat} {y : Ct} {q v4 : Value} {x : Sg} (h : RC w0 W G y q) (hb : Below W.heap.size W w1) (hg : w1.grownBy w4 q.ownBlock) (ho : w4.ownsRow (G + 1) 62 2 v4 (y.l.length + 1) (sgs y.l ++ sgs [x])) :
    RC w0 (w4.setCell ⟨G, 3, none⟩ v4) G ⟨y.h, y.r, y.i, y.l ++ [x]⟩ v4 := by
  have h1 := h.below hb
  have hl := h.1.lt
  have hG : q.ownBlock ≠ some G := fun e => by have := (h1.2.1.lt _ e).1; omega
  have hB := h1.1.grown hg hG
  refine ⟨hB.set 3 v4, ?_, ?_⟩
  · exact own_snocS (ownsRow_setCell_below ho (Nat.lt_succ_self _) _)
  · exact (h1.2.2.grown hg (Nat.le_of_lt h1.1.lt) (fun j hj => by have := (h1.2.1.lt j hj).1; omega)).setCell (Nat.le_refl _) _
end Go.Proofs.YtbpmjejmeaifbaaGreatDoor
