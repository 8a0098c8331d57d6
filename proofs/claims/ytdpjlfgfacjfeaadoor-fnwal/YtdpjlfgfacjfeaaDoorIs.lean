/- What impl.WalScan and impl.WalTrim answer: the records of a log, and where they end; the answer owns its memory, old memory stays. Conditions: logs of at most 2 to the 40 bytes that hold at most 2 to the 30 records; the table of sums lies as the program lays it. -/
import Derived.Test.YtdpjlfgfacjfeaaDoorIt
import Derived.Test.YtdpjlfgfacjfeaaDoorSr
namespace Go.Proofs.YtdpjlfgfacjfeaaDoor
open Go.RowKit Go.Shelf
open Num
set_option linter.unusedVariables false
attribute [local go_sem] Oper.semAt_some
theorem appended_two {W w1 : World} {n₀ n₁ B : Nat} {t e : TypeId} {size : Nat} {v v' : Value} {k m : Nat} {xs ys : List Value} {tmp : Obj}
    (hv : Boxed W B t v) (hte : t ≠ e) (hrow : W.ownsRow n₁ e size v k xs) (h01 : n₀ ≤ n₁) (hn₁ : n₁ ≤ W.heap.size) (hB : n₀ ≤ B)
    (hown' : w1.ownsRow n₁ e size v' m ys) (hgrow : (W.alloc tmp).grownBy w1 v.ownBlock) :
    Boxed w1 B t v ∧ Boxed (w1.setCell ⟨B, 0, none⟩ v') B t v' ∧ (w1.setCell ⟨B, 0, none⟩ v').ownsRow n₁ e size v' m ys ∧ KeepsOthers W (w1.setCell ⟨B, 0, none⟩ v') ∧ Below n₀ W (w1.setCell ⟨B, 0, none⟩ v') ∧ ∀ j, j < n₁ → j ≠ B → (w1.setCell ⟨B, 0, none⟩ v').heap[j]? = W.heap[j]? := by
  obtain ⟨a1, a2, _, a4, a5⟩ := Boxed.appended hv hte (own_less hrow h01) (Nat.le_trans h01 hn₁) hB (own_less hown' h01) hgrow
  refine ⟨a1, a2, hown'.kept (grownBy_setCell' w1 B v') (.inr (a1.not_row hte hown').symm), a4, a5, fun j hj hne => ?_⟩
  have hne' : some j ≠ v.ownBlock := by
    rcases hrow.2 with ⟨rfl, _⟩ | ⟨g, cap, cur, rfl, hb, _, _⟩
    · simp [Value.ownBlock]
    · intro e'
      obtain rfl : j = g := by simpa [Value.ownBlock] using e'
      omega
  have h1 : (w1.setCell ⟨B, 0, none⟩ v').heap[j]? = w1.heap[j]? := Below.heap_setCell _ _ _ j hne
  rw [h1, hgrow.block j (by simp; omega) hne']
  exact Below.heap_alloc W tmp j (by omega)
theorem wpIn_append_lies {F : Fence} {n : Nat} {P : Program} (w : World) {o : Oper} {a : Act} {K : Act → World → Prop} {Q : Exit → Act → World → Prop} (s x : Operand) (t : TypeId)
    (ho : o.op = .call { callee := .builtin .append, args := #[s, x], argTypes := #[t, t] })
    (base : Nat) (e : TypeId) (i : TypeInfo) (z : Value) (size bytes : Nat) (ht : P.underlying t = some (.slice e)) (hi : P.info? e = some i) (hz : i.zero = some z)
    (hsize : i.size = size) (hby : i.bytes = bytes) (hzs : z.cells.size = size) (hsz : 0 < size)
    (v : Value) (k : Nat) (xs : List Value) (hs : a.eval s = v) (hown : w.ownsRow base e size v k xs)
    (ad : Addr) (m c : Nat) (news : List Value) (hx : a.eval x = .slice (some ad) m c) (hl : news.length = m * size) (hnews : ∀ j u, news[j]? = some u → w.cell? (ad.add j) = some u) (h1 : ∀ u ∈ news, u.oneCell' = true)
    (hm : 0 < m) (h63 : k + m ≤ maxLen) (hbytes : (k + m) * bytes ≤ 140737488355328) (hbase : base ≤ w.heap.size)
    (h : ∀ g cap w', w'.ownsRow base e size (.slice (some ⟨g, 0, none⟩) (k + m) cap) (k + m) (xs ++ news) → w.grownBy w' v.ownBlock → K (a.put o.dst (.slice (some ⟨g, 0, none⟩) (k + m) cap)) w') : o.wpIn F n P a w K Q := by
  obtain ⟨g, cap, w', hrun, r1, r2, _, _⟩ := run_append_lies (P := P) w t o.type base e i z size bytes ht hi hz hsize hby hzs hsz v k xs hown ad m c news hl hnews h1 hm h63 hbytes hbase _ rfl
  unfold Oper.wpIn
  refine ⟨?_, ?_⟩
  · simp [Oper.about, ho, resolve, Target.leads, Sem.run_pure]
  · rw [Oper.semAt_plain F _ _ (by rw [ho]; intro c hc'; cases hc')]
    simp [execOp, ho, resolve, invoke, builtin, hs, hx, hrun, Result.andThen]
    exact h g cap w' r1 r2
set_option maxRecDepth 100000 in
set_option maxHeartbeats 3200000 in
set_option maxRecDepth 100000 in
theorem impl_scan (s : ByteArray) (ts : List ByteArray) (w : World) (hs : s.size ≤ 1099511627776) (hl : ts.length ≤ 1073741824) (hH : Holds s.data.toList ts) (hT : Tab w) :
    Calls Tryd.prog 10 #[.string s] w fun e w' => ∃ v, e = .returned (.tuple #[v, .int .i64 ((cat ts).length : Nat)]) ∧ OwnT w' w.heap.size v ts ∧ Below w.heap.size w w' := by
  obtain ⟨i0, hi, hz0, hz1, hz2⟩ := info9f
  refine (callsIn_wide (n := 6)).1 ?_
  have h1 : 1 ≤ 6 := by omega
  refine callsIn_of_wp_marks Tryd.func10 rfl trivial ?_ rfl
  simp only [Tryd.ntmps10, List.size_toArray, List.length_cons, List.length_nil, Nat.reduceAdd, Nat.reduceSub, Array.replicate_succ, Array.replicate_zero, List.push_toArray, List.append_toArray, List.nil_append, List.cons_append]
  gi_wp2
  refine ⟨trivial, ?_⟩
  refine (CallsIn.mono (callsIn_wide.2 (callsIn_wide.1 (records_any s _))) ?_)
  rintro e w' ⟨rfl, rfl⟩
  have bT := Boxed.new w 24 (.slice none 0 0)
  have bE := Boxed.new (w.alloc (.cells #[.slice none 0 0] 24)) 3 (.int .i64 0)
  have bL := Boxed.new ((w.alloc (.cells #[.slice none 0 0] 24)).alloc (.cells #[.int .i64 0] 3)) 9 (.string s)
  have hB0 : Below w.heap.size w (((w.alloc (.cells #[.slice none 0 0] 24)).alloc (.cells #[.int .i64 0] 3)).alloc (.cells #[.string s] 9)) := (((Below.refl _ w).alloc (Nat.le_refl _) _).alloc (by simp) _).alloc (by simp; omega) _
  have bT2 := (bT.alloc (.cells #[.int .i64 0] 3)).alloc (.cells #[.string s] 9)
  have bE2 := bE.alloc (.cells #[.string s] 9)
  rw [World.size_alloc, World.size_alloc] at bL
  rw [World.size_alloc] at bE2
  have hsz0 : (((w.alloc (.cells #[.slice none 0 0] 24)).alloc (.cells #[.int .i64 0] 3)).alloc (.cells #[.string s] 9)).heap.size = w.heap.size + 1 + 1 + 1 := by simp
  have hT0 := hT.below hB0
  have hw0 : 0 < w.heap.size := World.block_lt_of_cell? w _ (hT 0 (by omega))
  gi_wp2
  obtain ⟨W0, hW0⟩ : ∃ W0, ((w.alloc (.cells #[.slice none 0 0] 24)).alloc (.cells #[.int .i64 0] 3)).alloc (.cells #[.string s] 9) = W0 := ⟨_, rfl⟩
  rw [hW0] at bL hB0 bT2 bE2 hsz0 hT0 ⊢
  clear bT bE hW0
  have hn3 : w.heap.size + 1 + 1 < W0.heap.size := by omega
  have hmx : Tryd.prog.follows .mixedOrders = true := by kernel_rfl
  refine wpIn_rangeFunc_ownG rfl h1 (gf := 34) (lb := #[.pointer (some ⟨w.heap.size + 1 + 1, 0, none⟩)]) rfl trivial (enters_of Tryd.func34 (by kernel_rfl) rfl)
    (iter_stops (6 - 1) (by omega) (w.heap.size + 1 + 1) w.heap.size s ts hs hH W0 (by omega) bL hT0 hw0) (fun h k => Kq.trans h k) (fun W l o o' hl h hc hw => ⟨belowK_b (w := W0) (by omega) W l o o' hl h hc hw, World.putObj_heap_other (by omega)⟩) (Below.refl _ _) (fun _ => rfl)
    (fun pre W => (∃ v, Boxed W w.heap.size 24 v ∧ W.ownsRow W0.heap.size 9 1 v pre.length ((pre.map txt).map sv) ∧ True) ∧ (Boxed W (w.heap.size + 1) 3 (.int .i64 (lastE pre : Nat)) ∧ (Below w.heap.size w W ∧ W0.heap.size ≤ W.heap.size)))
    (fun _ _ _ => False)
    (OwnFrom.and (Own.from (holdsRow_own W0.heap.size w.heap.size 24 9 1 (fun pre : List Rc => pre.length) (fun pre => (pre.map txt).map sv) (fun pre v => True)) _) (OwnFrom.and (Own.from (boxed_own (w.heap.size + 1) 3 (fun pre : List Rc => .int .i64 (lastE pre : Nat))) _) (OwnFrom.and (ownFrom_below (Nat.le_refl _) (by omega)) (fun s A B row hs hg hr => Nat.le_trans hs hg.size))))
    (fun _ _ _ _ _ hs _ _ => hs)
    ⟨⟨_, bT2, World.ownsRow_nil _ _ _ _, trivial⟩, bE2, hB0, Nat.le_refl _⟩
    (fun x => { tmps := #[.string s, undef, .slice none 0 0, .int .i64 0, .pointer (some ⟨w.heap.size, 0, none⟩), .pointer (some ⟨w.heap.size + 1, 0, none⟩), .string x.1.1, .int .i64 (x.1.2 : Int), .string s, .func (.func 34) #[] #[.pointer (some ⟨w.heap.size + 1 + 1, 0, none⟩)], .string x.1.1, .int .i64 (x.1.2 : Int), undef, undef, undef, undef, undef, undef, undef, undef], defers := [] }) ?assign ?body ?done ?stop
  case assign =>
    intro l x W K hK
    gi_wp2
    exact hK
  case body =>
    rintro l pre ⟨⟨t, a2⟩, ht60⟩ W ⟨⟨v, hv, hrow, _⟩, hE, hB, hn1⟩ hlt
    have hc := hv.cell
    have hn := hv.lt
    have arm : ∀ w1 : World, Below W.drew.heap.size W.drew w1 → Boxed w1 w.heap.size 24 v ∧ Boxed w1 (w.heap.size + 1) 3 (.int .i64 (lastE pre : Nat)) ∧ w1.ownsRow W0.heap.size 9 1 v pre.length ((pre.map txt).map sv) ∧ W0.heap.size ≤ w1.heap.size ∧ Hid (KeepsOthers W w1) ∧ Hid (Below w.heap.size W w1) ∧ Hid (∀ j, j < W.heap.size → w1.heap[j]? = W.heap[j]?) := fun w1 b => by
      have b' : Below W.heap.size W w1 := (Below.refl _ _).drew.trans b
      have hgr : W.grownBy w1 none := ⟨b'.os, b'.tape, b'.output, b'.size, fun k hk _ => b'.block k hk⟩
      exact ⟨hv.kept hgr (by simp), hE.kept hgr (by simp), own_keep hrow b', Nat.le_trans hn1 b'.size, KeepsOthers.of_grownBy hgr (fun j o ej => by cases ej), b'.mono (by omega), fun j hj => b'.block j hj⟩
    simp only
    have kC := fun W => clone_any t W (by have : t.size ≤ 60 := ht60; omega)
    gi_wp2
    refine wpIn_region_any hmx ?_
    try (change wpAnyIn _ _ _ _ _ _ _ _ _ (World.drew _))
    refine wpAnyIn_ready (rs := [0, 1]) (by kernel_rfl) (by simp) ?_
    refine AllReadyIn.cons rfl (fun K hK => ?_) ?_
    · skip
      go_simp
      refine hK _ _ ?_
      clear hK K
      refine wpAnyIn_ready (rs := [1]) (by kernel_rfl) (by simp) ?_
      refine AllReadyIn.cons rfl (fun K hK => ?_) AllReadyIn.nil
      go_simp
      refine hK _ _ ?_
      clear hK K
      refine wpAnyIn_ready (rs := [2]) (by kernel_rfl) (by simp) ?_
      refine AllReadyIn.cons rfl (fun K hK => ?_) AllReadyIn.nil
      go_simp
      refine ⟨trivial, ?_⟩
      refine (CallsIn.inRound l (callsIn_wide.2 (kC _))).mono ?_
      rintro e w1 ⟨rfl, b1⟩
      obtain ⟨hv1, hE1, hr1, hw1, HK1, HB1, HJ1⟩ := arm w1 b1
      have hc1 := hv1.cell
      have hc2 := (hv1.alloc (.cells #[.string t] 9)).cell
      refine hK _ _ ?_
      clear hK K
      refine wpAnyIn_ready (rs := [3]) (by kernel_rfl) (by simp) ?_
      refine AllReadyIn.cons rfl (fun K hK => ?_) AllReadyIn.nil
      go_simp
      refine hK _ _ ?_
      clear hK K
      refine wpAnyIn_ready (rs := [4]) (by kernel_rfl) (by simp) ?_
      refine AllReadyIn.cons rfl (fun K hK => ?_) AllReadyIn.nil
      refine wpIn_append_lies _ _ _ 24 rfl W0.heap.size 9 i0 (.string ⟨#[]⟩) 1 16 Tryd.underlying24 hi hz0 hz1 hz2 rfl (by decide) v pre.length ((pre.map txt).map sv) rfl (hr1.alloc _) ⟨w1.heap.size, 0, none⟩ 1 1 ([t].map sv) rfl rfl (one_str w1 t) (sv_one _) (by decide) (by unfold maxLen; omega) (by omega) (by simp; omega) ?_
      intro g cap w3 hown' hgrow
      obtain ⟨ha1, ha2, ha3, ha4, ha5, ha6⟩ := appended_two hv1 (by decide) hr1 (by omega : w.heap.size ≤ W0.heap.size) hw1 (Nat.le_refl _) hown' hgrow
      have hcc := ha1.cell
      have hcf := ha1.frozen
      refine hK _ _ ?_
      clear hK K
      refine wpAnyIn_ready (rs := [5]) (by kernel_rfl) (by simp) ?_
      refine AllReadyIn.cons rfl (fun K hK => ?_) AllReadyIn.nil
      go_simp
      refine hK _ _ ?_
      clear hK K
      refine wpAnyIn_done (by kernel_rfl) ?_ _
      have hE3 := (hE1.alloc (.cells #[.string t] 9)).kept hgrow (hE1.not_row (by decide) hr1)
      have hec := hE3.cell
      have hef := hE3.frozen
      have hE4 := hE3.other (B' := w.heap.size) (by omega) (.slice (some ⟨g, 0, none⟩) (pre.length + 1) cap)
      have hE5 := hE4.set (.int .i64 (a2 : Int))
      have ha7 := ha3.kept (grownBy_setCell' _ (w.heap.size + 1) (.int .i64 (a2 : Int))) (.inr (hE4.not_row (by decide) ha3).symm)
      have ha8 := ha2.other (B' := w.heap.size + 1) (by omega) (.int .i64 (a2 : Int))
      have ha9 := HK1.out.trans (ha4.trans (KeepsOthers.setCell _ ⟨w.heap.size + 1, 0, none⟩ (.int .i64 (a2 : Int))))
      have hb9 := HB1.out.trans (ha5.setCell (p := ⟨w.heap.size + 1, 0, none⟩) (Nat.le_succ _) (.int .i64 (a2 : Int)))
      have hk9 : ∀ j, j < W0.heap.size → j ≠ w.heap.size → j ≠ w.heap.size + 1 → (((w3.setCell ⟨w.heap.size, 0, none⟩ (.slice (some ⟨g, 0, none⟩) (pre.length + 1) cap)).setCell ⟨w.heap.size + 1, 0, none⟩ (.int .i64 (a2 : Int)))).heap[j]? = W.heap[j]? := fun j h1 h2 h3 => by
        rw [Below.heap_setCell _ _ _ j h3, ha6 j h1 h2]
        exact HJ1.out j (by omega)
      have hr9 : (((w3.setCell ⟨w.heap.size, 0, none⟩ (.slice (some ⟨g, 0, none⟩) (pre.length + 1) cap)).setCell ⟨w.heap.size + 1, 0, none⟩ (.int .i64 (a2 : Int)))).ownsRow W0.heap.size 9 1 (.slice (some ⟨g, 0, none⟩) (pre.length + 1) cap) (pre ++ [(⟨(t, a2), ht60⟩ : Rc)]).length (((pre ++ [(⟨(t, a2), ht60⟩ : Rc)]).map txt).map sv) := by
        rw [List.length_append, List.map_append, List.map_append]; exact ha7
      have hq : Kq w.heap.size (w.heap.size + 1 + 1) W (((w3.setCell ⟨w.heap.size, 0, none⟩ (.slice (some ⟨g, 0, none⟩) (pre.length + 1) cap)).setCell ⟨w.heap.size + 1, 0, none⟩ (.int .i64 (a2 : Int)))) := ⟨hb9, hk9 _ (by omega) (by omega) (by omega)⟩
      have hz : W0.heap.size ≤ (((w3.setCell ⟨w.heap.size, 0, none⟩ (.slice (some ⟨g, 0, none⟩) (pre.length + 1) cap)).setCell ⟨w.heap.size + 1, 0, none⟩ (.int .i64 (a2 : Int)))).heap.size := Nat.le_trans hn1 hb9.size
      have hl9 : Boxed (((w3.setCell ⟨w.heap.size, 0, none⟩ (.slice (some ⟨g, 0, none⟩) (pre.length + 1) cap)).setCell ⟨w.heap.size + 1, 0, none⟩ (.int .i64 (a2 : Int)))) (w.heap.size + 1) 3 (.int .i64 (lastE (pre ++ [(⟨(t, a2), ht60⟩ : Rc)]) : Nat)) := by
        rw [lastE_snoc]; exact hE5
      clear hE1 hr1 HK1 HB1 HJ1 hown' ha2 ha3 ha4 ha5 ha6 hE4 hE5 ha7 hk9 arm
      gi_wp2
      exact ⟨ha9.from _, hq, ⟨_, ha8, hr9, trivial⟩, hl9, hB.trans hb9, hz⟩
    refine AllReadyIn.cons rfl (fun K hK => ?_) AllReadyIn.nil
    go_simp
    refine hK _ _ ?_
    clear hK K
    refine wpAnyIn_ready (rs := [0, 2]) (by kernel_rfl) (by simp) ?_
    refine AllReadyIn.cons rfl (fun K hK => ?_) ?_
    · skip
      go_simp
      refine hK _ _ ?_
      clear hK K
      refine wpAnyIn_ready (rs := [2]) (by kernel_rfl) (by simp) ?_
      refine AllReadyIn.cons rfl (fun K hK => ?_) AllReadyIn.nil
      go_simp
      refine ⟨trivial, ?_⟩
      refine (CallsIn.inRound l (callsIn_wide.2 (kC _))).mono ?_
      rintro e w1 ⟨rfl, b1⟩
      obtain ⟨hv1, hE1, hr1, hw1, HK1, HB1, HJ1⟩ := arm w1 b1
      have hc1 := hv1.cell
      have hc2 := (hv1.alloc (.cells #[.string t] 9)).cell
      refine hK _ _ ?_
      clear hK K
      refine wpAnyIn_ready (rs := [3]) (by kernel_rfl) (by simp) ?_
      refine AllReadyIn.cons rfl (fun K hK => ?_) AllReadyIn.nil
      go_simp
      refine hK _ _ ?_
      clear hK K
      refine wpAnyIn_ready (rs := [4]) (by kernel_rfl) (by simp) ?_
      refine AllReadyIn.cons rfl (fun K hK => ?_) AllReadyIn.nil
      refine wpIn_append_lies _ _ _ 24 rfl W0.heap.size 9 i0 (.string ⟨#[]⟩) 1 16 Tryd.underlying24 hi hz0 hz1 hz2 rfl (by decide) v pre.length ((pre.map txt).map sv) rfl (hr1.alloc _) ⟨w1.heap.size, 0, none⟩ 1 1 ([t].map sv) rfl rfl (one_str w1 t) (sv_one _) (by decide) (by unfold maxLen; omega) (by omega) (by simp; omega) ?_
      intro g cap w3 hown' hgrow
      obtain ⟨ha1, ha2, ha3, ha4, ha5, ha6⟩ := appended_two hv1 (by decide) hr1 (by omega : w.heap.size ≤ W0.heap.size) hw1 (Nat.le_refl _) hown' hgrow
      have hcc := ha1.cell
      have hcf := ha1.frozen
      refine hK _ _ ?_
      clear hK K
      refine wpAnyIn_ready (rs := [5]) (by kernel_rfl) (by simp) ?_
      refine AllReadyIn.cons rfl (fun K hK => ?_) AllReadyIn.nil
      go_simp
      refine hK _ _ ?_
      clear hK K
      refine wpAnyIn_done (by kernel_rfl) ?_ _
      have hE3 := (hE1.alloc (.cells #[.string t] 9)).kept hgrow (hE1.not_row (by decide) hr1)
      have hec := hE3.cell
      have hef := hE3.frozen
      have hE4 := hE3.other (B' := w.heap.size) (by omega) (.slice (some ⟨g, 0, none⟩) (pre.length + 1) cap)
      have hE5 := hE4.set (.int .i64 (a2 : Int))
      have ha7 := ha3.kept (grownBy_setCell' _ (w.heap.size + 1) (.int .i64 (a2 : Int))) (.inr (hE4.not_row (by decide) ha3).symm)
      have ha8 := ha2.other (B' := w.heap.size + 1) (by omega) (.int .i64 (a2 : Int))
      have ha9 := HK1.out.trans (ha4.trans (KeepsOthers.setCell _ ⟨w.heap.size + 1, 0, none⟩ (.int .i64 (a2 : Int))))
      have hb9 := HB1.out.trans (ha5.setCell (p := ⟨w.heap.size + 1, 0, none⟩) (Nat.le_succ _) (.int .i64 (a2 : Int)))
      have hk9 : ∀ j, j < W0.heap.size → j ≠ w.heap.size → j ≠ w.heap.size + 1 → (((w3.setCell ⟨w.heap.size, 0, none⟩ (.slice (some ⟨g, 0, none⟩) (pre.length + 1) cap)).setCell ⟨w.heap.size + 1, 0, none⟩ (.int .i64 (a2 : Int)))).heap[j]? = W.heap[j]? := fun j h1 h2 h3 => by
        rw [Below.heap_setCell _ _ _ j h3, ha6 j h1 h2]
        exact HJ1.out j (by omega)
      have hr9 : (((w3.setCell ⟨w.heap.size, 0, none⟩ (.slice (some ⟨g, 0, none⟩) (pre.length + 1) cap)).setCell ⟨w.heap.size + 1, 0, none⟩ (.int .i64 (a2 : Int)))).ownsRow W0.heap.size 9 1 (.slice (some ⟨g, 0, none⟩) (pre.length + 1) cap) (pre ++ [(⟨(t, a2), ht60⟩ : Rc)]).length (((pre ++ [(⟨(t, a2), ht60⟩ : Rc)]).map txt).map sv) := by
        rw [List.length_append, List.map_append, List.map_append]; exact ha7
      have hq : Kq w.heap.size (w.heap.size + 1 + 1) W (((w3.setCell ⟨w.heap.size, 0, none⟩ (.slice (some ⟨g, 0, none⟩) (pre.length + 1) cap)).setCell ⟨w.heap.size + 1, 0, none⟩ (.int .i64 (a2 : Int)))) := ⟨hb9, hk9 _ (by omega) (by omega) (by omega)⟩
      have hz : W0.heap.size ≤ (((w3.setCell ⟨w.heap.size, 0, none⟩ (.slice (some ⟨g, 0, none⟩) (pre.length + 1) cap)).setCell ⟨w.heap.size + 1, 0, none⟩ (.int .i64 (a2 : Int)))).heap.size := Nat.le_trans hn1 hb9.size
      have hl9 : Boxed (((w3.setCell ⟨w.heap.size, 0, none⟩ (.slice (some ⟨g, 0, none⟩) (pre.length + 1) cap)).setCell ⟨w.heap.size + 1, 0, none⟩ (.int .i64 (a2 : Int)))) (w.heap.size + 1) 3 (.int .i64 (lastE (pre ++ [(⟨(t, a2), ht60⟩ : Rc)]) : Nat)) := by
        rw [lastE_snoc]; exact hE5
      clear hE1 hr1 HK1 HB1 HJ1 hown' ha2 ha3 ha4 ha5 ha6 hE4 hE5 ha7 hk9 arm
      gi_wp2
      exact ⟨ha9.from _, hq, ⟨_, ha8, hr9, trivial⟩, hl9, hB.trans hb9, hz⟩
    refine AllReadyIn.cons rfl (fun K hK => ?_) AllReadyIn.nil
    go_simp
    refine ⟨trivial, ?_⟩
    refine (CallsIn.inRound l (callsIn_wide.2 (kC _))).mono ?_
    rintro e w1 ⟨rfl, b1⟩
    obtain ⟨hv1, hE1, hr1, hw1, HK1, HB1, HJ1⟩ := arm w1 b1
    have hc1 := hv1.cell
    have hc2 := (hv1.alloc (.cells #[.string t] 9)).cell
    refine hK _ _ ?_
    clear hK K
    refine wpAnyIn_ready (rs := [0, 3]) (by kernel_rfl) (by simp) ?_
    refine AllReadyIn.cons rfl (fun K hK => ?_) ?_
    · skip
      go_simp
      refine hK _ _ ?_
      clear hK K
      refine wpAnyIn_ready (rs := [3]) (by kernel_rfl) (by simp) ?_
      refine AllReadyIn.cons rfl (fun K hK => ?_) AllReadyIn.nil
      go_simp
      refine hK _ _ ?_
      clear hK K
      refine wpAnyIn_ready (rs := [4]) (by kernel_rfl) (by simp) ?_
      refine AllReadyIn.cons rfl (fun K hK => ?_) AllReadyIn.nil
      refine wpIn_append_lies _ _ _ 24 rfl W0.heap.size 9 i0 (.string ⟨#[]⟩) 1 16 Tryd.underlying24 hi hz0 hz1 hz2 rfl (by decide) v pre.length ((pre.map txt).map sv) rfl (hr1.alloc _) ⟨w1.heap.size, 0, none⟩ 1 1 ([t].map sv) rfl rfl (one_str w1 t) (sv_one _) (by decide) (by unfold maxLen; omega) (by omega) (by simp; omega) ?_
      intro g cap w3 hown' hgrow
      obtain ⟨ha1, ha2, ha3, ha4, ha5, ha6⟩ := appended_two hv1 (by decide) hr1 (by omega : w.heap.size ≤ W0.heap.size) hw1 (Nat.le_refl _) hown' hgrow
      have hcc := ha1.cell
      have hcf := ha1.frozen
      refine hK _ _ ?_
      clear hK K
      refine wpAnyIn_ready (rs := [5]) (by kernel_rfl) (by simp) ?_
      refine AllReadyIn.cons rfl (fun K hK => ?_) AllReadyIn.nil
      go_simp
      refine hK _ _ ?_
      clear hK K
      refine wpAnyIn_done (by kernel_rfl) ?_ _
      have hE3 := (hE1.alloc (.cells #[.string t] 9)).kept hgrow (hE1.not_row (by decide) hr1)
      have hec := hE3.cell
      have hef := hE3.frozen
      have hE4 := hE3.other (B' := w.heap.size) (by omega) (.slice (some ⟨g, 0, none⟩) (pre.length + 1) cap)
      have hE5 := hE4.set (.int .i64 (a2 : Int))
      have ha7 := ha3.kept (grownBy_setCell' _ (w.heap.size + 1) (.int .i64 (a2 : Int))) (.inr (hE4.not_row (by decide) ha3).symm)
      have ha8 := ha2.other (B' := w.heap.size + 1) (by omega) (.int .i64 (a2 : Int))
      have ha9 := HK1.out.trans (ha4.trans (KeepsOthers.setCell _ ⟨w.heap.size + 1, 0, none⟩ (.int .i64 (a2 : Int))))
      have hb9 := HB1.out.trans (ha5.setCell (p := ⟨w.heap.size + 1, 0, none⟩) (Nat.le_succ _) (.int .i64 (a2 : Int)))
      have hk9 : ∀ j, j < W0.heap.size → j ≠ w.heap.size → j ≠ w.heap.size + 1 → (((w3.setCell ⟨w.heap.size, 0, none⟩ (.slice (some ⟨g, 0, none⟩) (pre.length + 1) cap)).setCell ⟨w.heap.size + 1, 0, none⟩ (.int .i64 (a2 : Int)))).heap[j]? = W.heap[j]? := fun j h1 h2 h3 => by
        rw [Below.heap_setCell _ _ _ j h3, ha6 j h1 h2]
        exact HJ1.out j (by omega)
      have hr9 : (((w3.setCell ⟨w.heap.size, 0, none⟩ (.slice (some ⟨g, 0, none⟩) (pre.length + 1) cap)).setCell ⟨w.heap.size + 1, 0, none⟩ (.int .i64 (a2 : Int)))).ownsRow W0.heap.size 9 1 (.slice (some ⟨g, 0, none⟩) (pre.length + 1) cap) (pre ++ [(⟨(t, a2), ht60⟩ : Rc)]).length (((pre ++ [(⟨(t, a2), ht60⟩ : Rc)]).map txt).map sv) := by
        rw [List.length_append, List.map_append, List.map_append]; exact ha7
      have hq : Kq w.heap.size (w.heap.size + 1 + 1) W (((w3.setCell ⟨w.heap.size, 0, none⟩ (.slice (some ⟨g, 0, none⟩) (pre.length + 1) cap)).setCell ⟨w.heap.size + 1, 0, none⟩ (.int .i64 (a2 : Int)))) := ⟨hb9, hk9 _ (by omega) (by omega) (by omega)⟩
      have hz : W0.heap.size ≤ (((w3.setCell ⟨w.heap.size, 0, none⟩ (.slice (some ⟨g, 0, none⟩) (pre.length + 1) cap)).setCell ⟨w.heap.size + 1, 0, none⟩ (.int .i64 (a2 : Int)))).heap.size := Nat.le_trans hn1 hb9.size
      have hl9 : Boxed (((w3.setCell ⟨w.heap.size, 0, none⟩ (.slice (some ⟨g, 0, none⟩) (pre.length + 1) cap)).setCell ⟨w.heap.size + 1, 0, none⟩ (.int .i64 (a2 : Int)))) (w.heap.size + 1) 3 (.int .i64 (lastE (pre ++ [(⟨(t, a2), ht60⟩ : Rc)]) : Nat)) := by
        rw [lastE_snoc]; exact hE5
      clear hE1 hr1 HK1 HB1 HJ1 hown' ha2 ha3 ha4 ha5 ha6 hE4 hE5 ha7 hk9 arm
      gi_wp2
      exact ⟨ha9.from _, hq, ⟨_, ha8, hr9, trivial⟩, hl9, hB.trans hb9, hz⟩
    refine AllReadyIn.cons rfl (fun K hK => ?_) AllReadyIn.nil
    go_simp
    refine hK _ _ ?_
    clear hK K
    refine wpAnyIn_ready (rs := [0]) (by kernel_rfl) (by simp) ?_
    refine AllReadyIn.cons rfl (fun K hK => ?_) AllReadyIn.nil
    go_simp
    refine hK _ _ ?_
    clear hK K
    refine wpAnyIn_ready (rs := [4]) (by kernel_rfl) (by simp) ?_
    refine AllReadyIn.cons rfl (fun K hK => ?_) AllReadyIn.nil
    refine wpIn_append_lies _ _ _ 24 rfl W0.heap.size 9 i0 (.string ⟨#[]⟩) 1 16 Tryd.underlying24 hi hz0 hz1 hz2 rfl (by decide) v pre.length ((pre.map txt).map sv) rfl (hr1.alloc _) ⟨w1.heap.size, 0, none⟩ 1 1 ([t].map sv) rfl rfl (one_str w1 t) (sv_one _) (by decide) (by unfold maxLen; omega) (by omega) (by simp; omega) ?_
    intro g cap w3 hown' hgrow
    obtain ⟨ha1, ha2, ha3, ha4, ha5, ha6⟩ := appended_two hv1 (by decide) hr1 (by omega : w.heap.size ≤ W0.heap.size) hw1 (Nat.le_refl _) hown' hgrow
    have hcc := ha1.cell
    have hcf := ha1.frozen
    refine hK _ _ ?_
    clear hK K
    refine wpAnyIn_ready (rs := [5]) (by kernel_rfl) (by simp) ?_
    refine AllReadyIn.cons rfl (fun K hK => ?_) AllReadyIn.nil
    go_simp
    refine hK _ _ ?_
    clear hK K
    refine wpAnyIn_done (by kernel_rfl) ?_ _
    have hE3 := (hE1.alloc (.cells #[.string t] 9)).kept hgrow (hE1.not_row (by decide) hr1)
    have hec := hE3.cell
    have hef := hE3.frozen
    have hE4 := hE3.other (B' := w.heap.size) (by omega) (.slice (some ⟨g, 0, none⟩) (pre.length + 1) cap)
    have hE5 := hE4.set (.int .i64 (a2 : Int))
    have ha7 := ha3.kept (grownBy_setCell' _ (w.heap.size + 1) (.int .i64 (a2 : Int))) (.inr (hE4.not_row (by decide) ha3).symm)
    have ha8 := ha2.other (B' := w.heap.size + 1) (by omega) (.int .i64 (a2 : Int))
    have ha9 := HK1.out.trans (ha4.trans (KeepsOthers.setCell _ ⟨w.heap.size + 1, 0, none⟩ (.int .i64 (a2 : Int))))
    have hb9 := HB1.out.trans (ha5.setCell (p := ⟨w.heap.size + 1, 0, none⟩) (Nat.le_succ _) (.int .i64 (a2 : Int)))
    have hk9 : ∀ j, j < W0.heap.size → j ≠ w.heap.size → j ≠ w.heap.size + 1 → (((w3.setCell ⟨w.heap.size, 0, none⟩ (.slice (some ⟨g, 0, none⟩) (pre.length + 1) cap)).setCell ⟨w.heap.size + 1, 0, none⟩ (.int .i64 (a2 : Int)))).heap[j]? = W.heap[j]? := fun j h1 h2 h3 => by
      rw [Below.heap_setCell _ _ _ j h3, ha6 j h1 h2]
      exact HJ1.out j (by omega)
    have hr9 : (((w3.setCell ⟨w.heap.size, 0, none⟩ (.slice (some ⟨g, 0, none⟩) (pre.length + 1) cap)).setCell ⟨w.heap.size + 1, 0, none⟩ (.int .i64 (a2 : Int)))).ownsRow W0.heap.size 9 1 (.slice (some ⟨g, 0, none⟩) (pre.length + 1) cap) (pre ++ [(⟨(t, a2), ht60⟩ : Rc)]).length (((pre ++ [(⟨(t, a2), ht60⟩ : Rc)]).map txt).map sv) := by
      rw [List.length_append, List.map_append, List.map_append]; exact ha7
    have hq : Kq w.heap.size (w.heap.size + 1 + 1) W (((w3.setCell ⟨w.heap.size, 0, none⟩ (.slice (some ⟨g, 0, none⟩) (pre.length + 1) cap)).setCell ⟨w.heap.size + 1, 0, none⟩ (.int .i64 (a2 : Int)))) := ⟨hb9, hk9 _ (by omega) (by omega) (by omega)⟩
    have hz : W0.heap.size ≤ (((w3.setCell ⟨w.heap.size, 0, none⟩ (.slice (some ⟨g, 0, none⟩) (pre.length + 1) cap)).setCell ⟨w.heap.size + 1, 0, none⟩ (.int .i64 (a2 : Int)))).heap.size := Nat.le_trans hn1 hb9.size
    have hl9 : Boxed (((w3.setCell ⟨w.heap.size, 0, none⟩ (.slice (some ⟨g, 0, none⟩) (pre.length + 1) cap)).setCell ⟨w.heap.size + 1, 0, none⟩ (.int .i64 (a2 : Int)))) (w.heap.size + 1) 3 (.int .i64 (lastE (pre ++ [(⟨(t, a2), ht60⟩ : Rc)]) : Nat)) := by
      rw [lastE_snoc]; exact hE5
    clear hE1 hr1 HK1 HB1 HJ1 hown' ha2 ha3 ha4 ha5 ha6 hE4 hE5 ha7 hk9 arm
    gi_wp2
    exact ⟨ha9.from _, hq, ⟨_, ha8, hr9, trivial⟩, hl9, hB.trans hb9, hz⟩
  case done =>
    rintro D ys W hD rfl ⟨⟨v, hv, hrow, _⟩, hE, hB, hn1⟩ hK
    have hc := hv.cell
    have hc2 := hE.cell
    rw [lastE_recs hH.fits _ (Nat.le_refl _), atE_full] at hc2
    have hr9 : OwnT W W0.heap.size v ts := by
      have h := hrow
      rw [recs_txt hH.fits _ (Nat.le_refl _), List.take_length, recs_length] at h
      exact h
    clear hrow hE
    gi_wp2
    refine wpIn_wide.2 ?_
    go_quiet (fail)
    gi_wp2
    have hKq : (W.drewN nq).heap[D]? = some (.deferred (some [])) := hK
    have bq : Below w.heap.size w (W.drewN nq) := below_drewN hB nq
    have hrq : (W.drewN nq).ownsRow W0.heap.size 9 1 v ts.length (ts.map sv) := own_keep hr9 (below_drewN (Below.refl _ _) nq)
    refine ⟨by simp, .inl ⟨_, _, rfl, run_takeDeferred hKq, ?_⟩⟩
    exact ⟨_, results_tmp2 rfl _ _ _, v, rfl, own_less (ownsRow_putObj hrq _ hKq rfl) (by omega), bq.trans (belowK_b (w := w) (Nat.le_refl _) (W.drewN nq) D _ _ (by omega) hKq rfl rfl)⟩
  case stop =>
    rintro D c pre W _ _ h _
    exact h.elim
set_option maxHeartbeats 800000 in
set_option maxRecDepth 100000 in
theorem impl_trim (s : ByteArray) (ts : List ByteArray) (w : World) (hs : s.size ≤ 1099511627776) (hl : ts.length ≤ 1073741824) (hH : Holds s.data.toList ts) (hT : Tab w) :
    Calls Tryd.prog 12 #[.string s] w fun e w' => e = .returned (.string (s.extract 0 (cat ts).length)) ∧ Below w.heap.size w w' := by
  have kS := fun W hT => impl_scan s ts W hs hl hH hT
  have hle := hH.le ts.length
  rw [atE_full, len_toList] at hle
  generalize (cat ts).length = n at *
  have hn : (n : Int) ≤ (s.size : Int) := by omega
  have kC := fun W => clone_any (s.extract 0 n) W (by rw [ByteArray.size_extract]; omega)
  have HT : Hid (Tab w) := hT
  clear hH hT
  go_enter Tryd.func12, Tryd.ntmps12
  go_wp2_with fail
  refine (kS _ HT.out).mono ?_
  rintro e w1 ⟨v, rfl, _, b1⟩
  go_wp2_with fail
  refine (kC _).mono ?_
  rintro e w2 ⟨rfl, b2⟩
  go_wp2
  go_ret
  exact ⟨rfl, b1.trans (b2.mono b1.size)⟩
end Go.Proofs.YtdpjlfgfacjfeaaDoor
