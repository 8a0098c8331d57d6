/- What impl.ShowCommit answers; old memory stays. Conditions: rows that a machine can hold. -/
import Derived.Test.YtbpmjejmeaifbaaDoorCp
import Derived.Test.YtbpmjejmeaifbaaDoorIw
namespace Go.Proofs.YtbpmjejmeaifbaaDoor
open Go.RowKit
open Num
set_option linter.unusedVariables false
theorem wr_new (w : World) : Wr (w.alloc (.cells #[.slice none 0 0] 63)) w.heap.size (.slice none 0 0) [] := by
  refine ⟨by simp, by simp, ?_⟩
  exact World.ownsRow_nil _ _ _ _
set_option maxHeartbeats 1600000 in
theorem impl_showC (x : Ct) (a : Option Addr) (cap : Nat) (w : World) (hl : SO w a x.l) (hs : SzOk x) :
    Calls Tryd.prog 12 #[cV x a cap] w fun e w' => e = .returned (.string (showC x)) ∧ Below w.heap.size w w' := by
  have HX : Hid (Blk (w.alloc (.cells (ccs x a cap).toArray 33)) w.heap.size (ccs x a cap) 33) := blk_new w _ _
  have HB : Hid (Below w.heap.size w (w.alloc (.cells (ccs x a cap).toArray 33))) := below_one _ _
  have kO := fun W (h : SO W a x.l) => impl_shown x a cap W h hs
  have HL : Hid (SO w a x.l) := hl
  have hlen := hs.2.1
  clear hl hs
  rcases hO : cOk x with _ | _
  · rw [showC_no hO]
    rw [hO] at kO
    clear hO
    obtain ⟨h, r, i, l⟩ := x
    unfold cV at *
    unfold ccs at *
    simp only at HX HB HL kO hlen ⊢
    have x0 := HX.out.cell 0 rfl
    have x1 := HX.out.cell 1 rfl
    have x2 := HX.out.cell 2 rfl
    have x3 := HX.out.cell 3 rfl
    have HL0 := HL.out.below HB.out
    go_enter Tryd.func12, Tryd.ntmps12
    go_wp2_with fail
    refine (kO _ HL0).mono ?_
    rintro e w2 ⟨rfl, b2⟩
    go_wp2
    go_ret
    exact ⟨rfl, HB.out.trans (b2.mono HB.out.size)⟩
  rw [showC_yes hO]
  rw [hO] at kO
  have ho := (cOk_iff x).1 hO
  have hi8 := cOk_i hO
  have hT := hdT_size x hi8
  have HG : Hid (∀ y ∈ x.l, sgB y = true) := ho.2.2
  have h12 := ho.2.1
  clear ho hO
  have HR : Hid (shC x = shG (hdT x) x.l) := rfl
  have HT : Hid (hdT x = var x.h ++ var x.r ++ pc x.i ++ var (x.l.length : Int)) := rfl
  generalize shC x = R at *
  generalize hdT x = T at *
  obtain ⟨h, r, i, l⟩ := x
  unfold cV at *
  unfold ccs at *
  simp only at HX HB HL kO hlen HR HT HG hi8 h12 ⊢
  have z1 := var_size h
  have z2 := var_size r
  have z3 := pc_size i
  have z4 := var_size (l.length : Int)
  obtain ⟨l1, e1, u1⟩ : ∃ m : List UInt8, [] ++ (var h).data.toList = m ∧ m.length ≤ 100 := ⟨_, rfl, by simp only [List.length_append, List.length_nil, len_toList]; omega⟩
  obtain ⟨l2, e2, u2⟩ : ∃ m : List UInt8, l1 ++ (var r).data.toList = m ∧ m.length ≤ 200 := ⟨_, rfl, by simp only [List.length_append, len_toList]; omega⟩
  obtain ⟨l3, e3, u3⟩ : ∃ m : List UInt8, l2 ++ (pc i).data.toList = m ∧ m.length ≤ 300 := ⟨_, rfl, by simp only [List.length_append, len_toList]; omega⟩
  obtain ⟨l4, e4, u4⟩ : ∃ m : List UInt8, l3 ++ (var (l.length : Int)).data.toList = m ∧ m.length ≤ 400 := ⟨_, rfl, by simp only [List.length_append, len_toList]; omega⟩
  have HT4 : Hid (T.data.toList = l4) := by
    show _ = _
    rw [HT.out]
    simp only [list_append]
    rw [← e4, ← e3, ← e2, ← e1, List.nil_append]
  have K1 := fun (g : Nat) (u : Value) (W : World) (hw : Wr W g u []) => impl_num g h u [] W hw (by simp)
  have K2 := fun (g : Nat) (u : Value) (W : World) (hw : Wr W g u l1) => impl_num g r u l1 W hw (by omega)
  have K3 := fun (g : Nat) (u : Value) (W : World) (hw : Wr W g u l2) => impl_sized g i u l2 W hw (by omega) (by omega)
  have K4 := fun (g : Nat) (u : Value) (W : World) (hw : Wr W g u l3) => impl_num g (l.length : Int) u l3 W hw (by omega)
  rw [e1] at K1
  rw [e2] at K2
  rw [e3] at K3
  rw [e4] at K4
  clear e1 e2 e3 e4 u1 u2 u3 u4 z1 z2 z3 z4 HT hi8
  have x0 := HX.out.cell 0 rfl
  have x1 := HX.out.cell 1 rfl
  have x2 := HX.out.cell 2 rfl
  have x3 := HX.out.cell 3 rfl
  have HL0 := HL.out.below HB.out
  have hz : w.heap.size < (w.alloc (Obj.cells #[Value.int .i64 h, Value.int .i64 r, Value.string i, Value.slice a l.length cap] 33)).heap.size := by simp
  go_enter Tryd.func12, Tryd.ntmps12
  go_wp2_with fail
  generalize w.alloc (Obj.cells #[Value.int .i64 h, Value.int .i64 r, Value.string i, Value.slice a l.length cap] 33) = w1 at *
  refine (kO _ HL0).mono ?_
  rintro e w2 ⟨rfl, b2⟩
  have HW2 : Hid (Wr (w2.alloc (.cells #[.slice none 0 0] 63)) w2.heap.size (.slice none 0 0) []) := wr_new w2
  have hg : w.heap.size < w2.heap.size := by have := b2.size; omega
  have HB2 : Hid (Below w.heap.size w (w2.alloc (.cells #[.slice none 0 0] 63))) := (HB.out.trans (b2.mono HB.out.size)).alloc (by omega) _
  have HS2 : Hid (Blk (w2.alloc (.cells #[.slice none 0 0] 63)) w.heap.size [Value.int .i64 h, Value.int .i64 r, Value.string i, Value.slice a l.length cap] 33) := (HX.out.below b2 hz).alloc _
  clear b2 x0 x1 x2 x3 kO HX HB HL0 hz
  have x0 := HS2.out.cell 0 rfl
  go_wp2_with fail
  refine (K1 w2.heap.size (.slice none 0 0) _ HW2.out).mono ?_
  rintro e w3 ⟨rfl, v3, h3, b3, _⟩
  have HW3 : Hid (Wr w3 w2.heap.size v3 l1) := h3
  have HB3 : Hid (Below w.heap.size w w3) := HB2.out.trans (b3.mono (by omega))
  have HS3 : Hid (Blk w3 w.heap.size [Value.int .i64 h, Value.int .i64 r, Value.string i, Value.slice a l.length cap] 33) := HS2.out.below b3 hg
  clear h3 b3 x0 HW2 HB2 HS2
  have x1 := HS3.out.cell 1 rfl
  go_wp2_with fail
  refine (K2 w2.heap.size v3 _ HW3.out).mono ?_
  rintro e w4 ⟨rfl, v4, h4, b4, _⟩
  have HW4 : Hid (Wr w4 w2.heap.size v4 l2) := h4
  have HB4 : Hid (Below w.heap.size w w4) := HB3.out.trans (b4.mono (by omega))
  have HS4 : Hid (Blk w4 w.heap.size [Value.int .i64 h, Value.int .i64 r, Value.string i, Value.slice a l.length cap] 33) := HS3.out.below b4 hg
  clear h4 b4 x1 HW3 HB3 HS3
  have x2 := HS4.out.cell 2 rfl
  go_wp2_with fail
  refine (K3 w2.heap.size v4 _ HW4.out).mono ?_
  rintro e w5 ⟨rfl, v5, h5, b5⟩
  have HW5 : Hid (Wr w5 w2.heap.size v5 l3) := h5
  have HB5 : Hid (Below w.heap.size w w5) := HB4.out.trans (b5.mono (by omega))
  have HS5 : Hid (Blk w5 w.heap.size [Value.int .i64 h, Value.int .i64 r, Value.string i, Value.slice a l.length cap] 33) := HS4.out.below b5 hg
  clear h5 b5 x2 HW4 HB4 HS4
  have x3 := HS5.out.cell 3 rfl
  go_wp2_with fail
  refine (K4 w2.heap.size v5 _ HW5.out).mono ?_
  rintro e w6 ⟨rfl, v6, h6, b6, _⟩
  have HW6 : Hid (Wr w6 w2.heap.size v6 l4) := h6
  have HB6 : Hid (Below w.heap.size w w6) := HB5.out.trans (b6.mono (by omega))
  have HS6 : Hid (Blk w6 w.heap.size [Value.int .i64 h, Value.int .i64 r, Value.string i, Value.slice a l.length cap] 33) := HS5.out.below b6 hg
  clear h6 b6 x3 HW5 HB5 HS5 K1 K2 K3 K4
  have x3 := HS6.out.cell 3 rfl
  generalize w2.heap.size = G at *
  go_wp2
  go_loopw [28] (fun iv wr => ∃ (k : Nat) (v : Value) (m : List UInt8), k ≤ l.length ∧ iv = .int .i64 k ∧ Hid (m = (shG T (l.take k)).data.toList) ∧ Hid (Wr wr G v m) ∧ Hid (Below w.heap.size w wr)) (fun iv _ => l.length - (intOf iv).toNat)
  case atStart => exact ⟨0, v6, l4, Nat.zero_le _, rfl, HT4.out.symm, HW6, HB6⟩
  case round =>
    obtain ⟨k, v, m, hk, rfl, HM, HWr, HBr⟩ := hrel
    clear HW6 HB6 HS6 x3
    by_cases hlt : k < l.length
    · have hltz : (k : Int) < (l.length : Int) := by omega
      rcases HL.out with h0 | ⟨b, o, rfl, hS⟩
      · omega
      have hS' := hS.below HBr.out (hS.lt (by omega))
      obtain ⟨c1, c2⟩ := hS' k hlt
      clear hS hS'
      have hG1 := (sgB_iff _).1 (HG.out _ (List.getElem_mem hlt))
      have HT1 : Hid (shG T (l.take (k + 1)) = shG T (l.take k) ++ var l[k].v ++ pc l[k].s) := shG_take l k hlt T
      have hs3 := shG_le l k hk h12 T hT (fun j hj _ => HG.out _ (List.getElem_mem hj))
      have hml : m.length = (shG T (l.take k)).size := by rw [HM.out, len_toList]
      obtain ⟨y, hy⟩ : ∃ y, l[k] = y := ⟨_, rfl⟩
      rw [hy] at c1 c2 HT1 hG1
      clear hy
      obtain ⟨yv, ys⟩ := y
      simp only at c1 c2 HT1 hG1
      have z1 := var_size yv
      obtain ⟨m1, e1, u1⟩ : ∃ q : List UInt8, m ++ (var yv).data.toList = q ∧ q.length ≤ 400 := ⟨_, rfl, by simp only [List.length_append, len_toList]; omega⟩
      obtain ⟨m2, e2⟩ : ∃ q : List UInt8, m1 ++ (pc ys).data.toList = q := ⟨_, rfl⟩
      have HM2 : Hid (m2 = (shG T (l.take (k + 1))).data.toList) := by
        show _ = _
        rw [HT1.out]
        simp only [list_append]
        rw [← e2, ← e1, HM.out]
      have K1 := fun (W : World) (hw : Wr W G v m) => impl_num G yv v m W hw (by omega)
      have K2 := fun (u : Value) (W : World) (hw : Wr W G u m1) => impl_sized G ys u m1 W hw (by omega) (by omega)
      rw [e1] at K1
      rw [e2] at K2
      have hys : ys.size ≤ 8 := hG1.2
      clear e1 e2 u1 z1 hml hs3 HT1 HM hG1
      have HW0 : Hid (Wr (wr.alloc (.cells #[.int .i64 yv, .string ys] 77)) G v m) := HWr.out.keep (below_one _ _)
      have HB0 : Hid (Below w.heap.size w (wr.alloc (.cells #[.int .i64 yv, .string ys] 77))) := HBr.out.alloc HBr.out.size _
      have HY0 : Hid (Blk (wr.alloc (.cells #[.int .i64 yv, .string ys] 77)) wr.heap.size [.int .i64 yv, .string ys] 77) := blk_new wr _ _
      have hGr : G < wr.heap.size := HWr.out.lt
      go_wp2_with fail
      generalize wr.alloc (Obj.cells #[Value.int .i64 yv, Value.string ys] 77) = wa at *
      refine (K1 _ HW0.out).mono ?_
      rintro e w7 ⟨rfl, v7, h7, b7, hk7⟩
      have HW7 : Hid (Wr w7 G v7 m1) := h7
      have hgr2 : w.heap.size ≤ wr.heap.size := HBr.out.size
      have HB7 : Hid (Below w.heap.size w w7) := HB0.out.trans (b7.mono (by omega))
      have HY7 : Hid (Blk w7 wr.heap.size [.int .i64 yv, .string ys] 77) := by
        show _ = _
        rw [hk7 wr.heap.size HY0.out.lt (by omega) (fun e => by have := (HWr.out.2.2.lt _ e).2; omega)]
        exact HY0.out
      have x5 := HY7.out.cell 1 rfl
      clear h7 b7 hk7 HY0 HB0 HW0 c1 c2
      go_wp2_with fail
      refine (K2 _ _ HW7.out).mono ?_
      rintro e w8 ⟨rfl, v8, h8, b8⟩
      have HW8 : Hid (Wr w8 G v8 m2) := h8
      have HB8 : Hid (Below w.heap.size w w8) := HB7.out.trans (b8.mono (by omega))
      clear h8 b8 x5 HY7 HB7 HW7
      go_wp2
      go_roundw
      case rel => exact ⟨k + 1, v8, m2, by omega, by go_num, HM2, HW8, HB8⟩
      case measure => simp [intOf]; omega
    · have hltz : ¬ (k : Int) < (l.length : Int) := by omega
      have y8 := HWr.out.1
      have HE : Hid (R = ⟨m.toArray⟩) := by
        refine list_inj ?_
        rw [HR.out, HM.out, List.take_of_length_le (by omega)]
      have hcv := run_str_own (P := Tryd.prog) wr 22 9 5 Tryd.underlying22 Tryd.underlying5 Tryd.underlying9 _ v _ _ HWr.out.2.2
      go_wp2
      go_ret
      exact ⟨by rw [HE.out]; rfl, HBr.out⟩
end Go.Proofs.YtbpmjejmeaifbaaDoor
