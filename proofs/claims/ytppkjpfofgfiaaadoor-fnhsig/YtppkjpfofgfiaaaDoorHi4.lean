/- What impl.HsSign answers; old memory stays. Conditions: seeds of at most 2 to the 40 bytes, nearly, and texts of at most as many; the table. -/
import Derived.Test.YtppkjpfofgfiaaaDoorHi3
import Derived.Test.YtppkjpfofgfiaaaDoorHs5
namespace Go.Proofs.YtppkjpfofgfiaaaDoor
open Go.RowKit
open Num
set_option linter.unusedVariables false
/-- What the joins stand on. -/
def Sg (w : World) (g : Nat) (PA : List ByteArray) (b o : Nat) (P : List ByteArray) (W : World) : Prop := StrAt W g 0 PA ∧ StrAt W b o P ∧ g < W.heap.size ∧ b < W.heap.size ∧ Below w.heap.size w W
theorem Sg.step {w W W' : World} {g : Nat} {PA : List ByteArray} {b o : Nat} {P : List ByteArray} (h : Sg w g PA b o P W) (hb : Below W.heap.size W W') : Sg w g PA b o P W' :=
  ⟨h.1.below hb, h.2.1.below hb, Nat.lt_of_lt_of_le h.2.2.1 hb.size, Nat.lt_of_lt_of_le h.2.2.2.1 hb.size, h.2.2.2.2.trans (hb.mono h.2.2.2.2.size)⟩
theorem Sg.drew {w W : World} {g : Nat} {PA : List ByteArray} {b o : Nat} {P : List ByteArray} (h : Sg w g PA b o P W) : Sg w g PA b o P W.drew := ⟨h.1, h.2.1, h.2.2.1, h.2.2.2.1, h.2.2.2.2.drew⟩
theorem Sg.alloc {w W : World} {g : Nat} {PA : List ByteArray} {b o : Nat} {P : List ByteArray} (h : Sg w g PA b o P W) (ob : Obj) : Sg w g PA b o P (W.alloc ob) := h.step ((Below.refl _ _).alloc (Nat.le_refl _) ob)
/-- A byte that was laid stays. -/
def Keep (W W' : World) : Prop := ∀ (g : Nat) (x : Value), W.cell? ⟨g, 0, none⟩ = some x → W'.cell? ⟨g, 0, none⟩ = some x
theorem keep_of {W W' : World} (hb : Below W.heap.size W W') : Keep W W' := fun g x h => by
  rw [hb.cell (p := ⟨g, 0, none⟩) (World.block_lt_of_cell? W _ h)]; exact h
theorem cell_new (W : World) (x : Int) : (W.alloc (.cells #[.int .u8 x] 5)).cell? ⟨W.heap.size, 0, none⟩ = some (.int .u8 x) := by
  rw [World.cell?_alloc_at _ _ _ _ rfl]; rfl
theorem dig_cell (m : ByteArray) (k : Nat) (h : k < 11) : ((digs m).map iv)[k]? = some (.int .i64 ((dig m k : Nat) : Int)) := by
  rw [List.getElem?_map, List.getElem?_eq_getElem (by rw [length_digs]; exact h)]
  show some (iv _) = _
  unfold dig
  rw [List.getD_eq_getElem?_getD, List.getElem?_eq_getElem (by rw [length_digs]; exact h)]; rfl
theorem run_index_dig (L : List Value) (k : Nat) (v : Value) (hk : k < 11) (h : L[k]? = some v) (W : World) : (Instr.index 41 (.agg L.toArray) (.int .i64 (k : Int))).run Tryd.prog W = .ok v W := by
  have h1 : (k : Int) < 11 := by omega
  simp [Instr.index, run_underlying Tryd.underlying41, asIntOf, go_sem, hk, Tryd.sizeOf3, Tryd.isAgg3, h]
theorem cell_newD (W : World) (x : Int) : (W.alloc (.cells #[.int .u8 x] 5)).drew.cell? ⟨W.heap.size, 0, none⟩ = some (.int .u8 x) := cell_new W x
/-- Which row is joined, and what comes of it. -/
def Jn (g : Nat) (A : ByteArray) (b o cp : Nat) (C : ByteArray) (bk o' n c : Nat) (y : ByteArray) : Prop := (bk = g ∧ o' = 0 ∧ n = 11 ∧ c = 11 ∧ y = A) ∨ (bk = b ∧ o' = o ∧ n = 2 ∧ c = cp ∧ y = C)
set_option maxHeartbeats 3200000 in
set_option maxRecDepth 100000 in
theorem impl_sign (l : Nat) (hl : l < 4) (x m : ByteArray) (w : World) (hx : x.size ≤ 1099511627000) (hm : m.size ≤ 1099511627776) (hT : Tab w) :
    Calls Tryd.prog 13 #[.string x, .int .i64 (l : Int), .string m] w fun e w' => e = .returned (.string (hSign x l m)) ∧ Below w.heap.size w w' := by
  obtain ⟨Z, HZ⟩ : ∃ Z : List Value, Hid (Z = List.replicate 11 (sv ⟨#[]⟩)) := ⟨_, rfl⟩
  have hz := zeroS.1
  rw [← HZ.out] at hz
  have hmf : ∀ (fn : Fn) (first cap : Array Value) (w : World), (Instr.makeFunc fn first cap).run Tryd.prog w = .ok (.func fn first cap) w := fun _ _ _ _ => rfl
  have kI := fun W => impl_leafIs (l : Int) (by omega) (by omega) W
  rw [leafIs_of l hl] at kI
  have HT : Hid (Tab w) := hT
  have wl : (l : Int) % 256 = (l : Int) := by omega
  obtain ⟨L, hL⟩ : ∃ L, L = (digs m).map iv := ⟨_, rfl⟩
  have HLE : Hid (L = (digs m).map iv) := hL
  have kD := fun W hW => impl_digits m W hm hW
  rw [← hL] at kD
  clear hT hL
  have HA0 : Hid (Au (w.alloc (.cells Z.toArray 40)) w.heap.size 40 (parts (partOf x m l) 11 0)) := by
    rw [parts_zero, ← HZ.out]; exact Au.new w 40 Z
  have hb0 : Below w.heap.size w (w.alloc (.cells Z.toArray 40)) := (Below.refl _ _).alloc (Nat.le_refl _) _
  go_enter Tryd.func13, Tryd.ntmps13
  go_wp2_with fail
  refine (kI w).mono ?_
  rintro e w1 ⟨rfl, rfl⟩
  go_wp2_with fail
  refine (kD _ (HT.out.below hb0 HT.out.pos)).mono ?_
  rintro e w2 ⟨rfl, hbd⟩
  have HA2 : Hid (Au w2 w1.heap.size 40 (parts (partOf x m l) 11 0)) := HA0.out.below hbd
  have hb2 : Below w1.heap.size w1 w2 := hb0.trans (hbd.mono hb0.size)
  clear HA0 hb0 hbd
  go_wp2
  go_loopw [16] (fun cv wr => ∃ (k : Nat), cv = .int .i64 k ∧ k ≤ 11 ∧ Hid (Au wr w1.heap.size 40 (parts (partOf x m l) 11 k)) ∧ Below w1.heap.size w1 wr) (fun cv _ => 11 - (intOf cv).toNat)
  case atStart => exact ⟨0, rfl, by omega, HA2, hb2⟩
  case round =>
    clear HA2 hb2
    obtain ⟨k, rfl, hk, HR, hb⟩ := hrel
    by_cases hlt : k < 11
    · have hlt' : (k : Int) < 11 := by omega
      obtain ⟨d, hd⟩ : ∃ d, d = dig m k := ⟨_, rfl⟩
      have hd3 : d ≤ 3 := by rw [hd]; exact dig_le m k
      have hidx : L[k]? = some (.int .i64 (d : Int)) := by rw [HLE.out, hd]; exact dig_cell m k hlt
      have hix := fun W => run_index_dig L k _ hlt hidx W
      have kG : ∀ W, Tab W → Calls Tryd.prog 28 #[linkOf k, .string (hSec x l k), .int .i64 0, .int .i64 (d : Int)] W fun e w' => e = .returned (.string (partOf x m l k)) ∧ Below W.heap.size W w' := fun W hW => by
        have h := impl_walk k 0 d hlt (by omega) (by omega) (hSec x l k) W (size_shortB _) hW
        exact h.mono fun e w' ⟨he, hb⟩ => ⟨by rw [he, hd]; rfl, hb⟩
      obtain ⟨y, hy⟩ : ∃ y, y = partOf x m l k := ⟨_, rfl⟩
      rw [← hy] at kG
      have HY : Hid (y = partOf x m l k) := hy
      clear hy hd hidx
      go_wp2_with fail
      refine (impl_secret l k hl hlt x wr hx (HT.out.below hb HT.out.pos)).mono ?_
      rintro e w3 ⟨rfl, hb3⟩
      have hb03 := hb.trans (hb3.mono hb.size)
      go_wp2_with fail
      refine (kG w3 (HT.out.below hb03 HT.out.pos)).mono ?_
      rintro e w4 ⟨rfl, hb4⟩
      have hb04 := hb03.trans (hb4.mono hb03.size)
      have HR4 : Hid (Au w4 w1.heap.size 40 (parts (partOf x m l) 11 k)) := (HR.out.below hb3).below hb4
      have hc : w4.cell? ⟨w1.heap.size, k, none⟩ = some (sv ⟨#[]⟩) := HR4.out.cell (parts_behind _ 11 k hlt)
      have hf : w4.frozen? ⟨w1.heap.size, k, none⟩ = false := HR4.out.frozen k
      have HR5 : Hid (Au (w4.setCell ⟨w1.heap.size, k, none⟩ (.string y)) w1.heap.size 40 (parts (partOf x m l) 11 (k + 1))) := by
        have := HR4.out.set k (sv (partOf x m l k))
        rw [parts_set _ 11 k hlt] at this
        rw [HY.out]; exact this
      have hb5 : Below w1.heap.size w1 (w4.setCell ⟨w1.heap.size, k, none⟩ (.string y)) := hb04.setCell (p := ⟨w1.heap.size, k, none⟩) (Nat.le_refl _) _
      clear hb3 hb4 hb03 hb hb04
      go_wp2
      go_roundw
      case rel =>
        have R : ∃ (k' : Nat), Value.int .i64 ((k : Int) + 1) = .int .i64 k' ∧ k' ≤ 11 ∧ Hid (Au (w4.setCell ⟨w1.heap.size, k, none⟩ (.string y)) w1.heap.size 40 (parts (partOf x m l) 11 k')) ∧ Below w1.heap.size w1 (w4.setCell ⟨w1.heap.size, k, none⟩ (.string y)) :=
          ⟨k + 1, by simp, by omega, HR5, hb5⟩
        first | exact R | ((repeat apply Exists.intro); exact ⟨R, rfl⟩)
      case measure => simp [intOf]; omega
    · obtain rfl : k = 11 := by omega
      obtain ⟨PA, hPA⟩ : ∃ PA, PA = (List.range 11).map (partOf x m l) := ⟨_, rfl⟩
      have HS : Hid (StrAt wr w1.heap.size 0 PA) := by
        have := HR.out
        rw [parts_full] at this
        rw [hPA]; exact au_str this
      have HLT : Hid (w1.heap.size < wr.heap.size) := HR.out.lt
      have hA88 : (cat PA).size = 88 := by
        have := size_catK _ (size_partOf x m l) 11
        unfold catK at this
        rw [hPA, this]
      have HPA : Hid (PA.length = 11) := by show _ = _; rw [hPA]; rfl
      go_wp2_with fail
      refine (impl_pubs x wr hx (HT.out.below hb HT.out.pos)).mono ?_
      rintro e w2 ⟨rfl, hA, hb2⟩
      have HA : Hid (StrAt w2 wr.heap.size 0 (hPubs x)) := hA
      have hb02 := hb.trans (hb2.mono hb.size)
      have HS2 : Hid (StrAt w2 w1.heap.size 0 PA) := HS.out.below hb2
      clear hA
      go_wp2_with fail
      refine (impl_treePath wr.heap.size 0 4 (hPubs x) (l : Int) w2 (by rw [length_hPubs]; omega) (Nat.le_refl _) (by omega) HA.out (fun s hs => by rw [mem_hPubs x s hs]; omega) (by omega) (by omega) (HT.out.below hb02 HT.out.pos)).mono ?_
      rintro e w3 ⟨a, cp, rfl, hcp1, hcp2, hfr, hb3⟩
      have hb03 := hb02.trans (hb3.mono hb02.size)
      have HS3 : Hid (StrAt w3 w1.heap.size 0 PA) := HS2.out.below hb3
      have HE : Hid (cat PA ++ ⟨#[UInt8.ofNat l]⟩ ++ cat (treeP (hPubs x) l) = hSign x l m) := by show _ = _; rw [hPA]; rfl
      have hC64 : (cat (treeP (hPubs x) (l : Int))).size ≤ 64 := by
        obtain ⟨a, b, hp, ha, hb⟩ := path_two x l hl
        rw [hp, size_cat 32 _ (by rw [← hp]; exact mem_treeP _ _)]; exact Nat.le_refl _
      have hP2 : (treeP (hPubs x) (l : Int)).length = 2 := by
        obtain ⟨a, b, hp, ha, hb⟩ := path_two x l hl
        rw [hp]; rfl
      clear hPA
      generalize treeP (hPubs x) (l : Int) = P at *
      obtain ⟨b, o, rfl, hB, hSP, hth⟩ : ∃ b o, a = some ⟨b, o, none⟩ ∧ w2.heap.size ≤ b ∧ StrAt w3 b o P ∧ w3.there b o P.length := by
        rcases hfr with h | h
        · omega
        · exact h
      have HSG : Hid (Sg w1 w1.heap.size PA b o P w3) := by
        have hc := hSP 0 (by omega)
        exact ⟨HS3.out, hSP, Nat.lt_of_lt_of_le HLT.out (Nat.le_trans hb2.size hb3.size), World.block_lt_of_cell? w3 _ hc, hb03⟩
      have kJ1 : Hid (∀ W, Sg w1 w1.heap.size PA b o P W → Calls Tryd.prog 31 #[.slice (some ⟨w1.heap.size, 0, none⟩) 11 11, .string ⟨#[]⟩] W fun e w' => e = .returned (.string (cat PA)) ∧ Sg w1 w1.heap.size PA b o P w' ∧ Keep W w') := fun W hW => by
        have h := impl_join w1.heap.size 0 11 PA W hW.1 hW.2.2.1 (by rw [HPA.out]; omega) (by rw [HPA.out]; omega) (by rw [hA88]; omega)
        rw [HPA.out] at h
        exact h.mono fun e w' ⟨he, hb⟩ => ⟨he, hW.step hb, keep_of hb⟩
      have kJ2 : Hid (∀ W, Sg w1 w1.heap.size PA b o P W → Calls Tryd.prog 31 #[.slice (some ⟨b, o, none⟩) 2 cp, .string ⟨#[]⟩] W fun e w' => e = .returned (.string (cat P)) ∧ Sg w1 w1.heap.size PA b o P w' ∧ Keep W w') := fun W hW => by
        have h := impl_join b o cp P W hW.2.1 hW.2.2.2.1 (by omega) hcp1 (by omega)
        rw [hP2] at h
        exact h.mono fun e w' ⟨he, hb⟩ => ⟨he, hW.step hb, keep_of hb⟩
      have hcv : ∀ (W : World) (g : Nat), W.cell? ⟨g, 0, none⟩ = some (.int .u8 (l : Int)) → (convert 22 9 (.slice (some ⟨g, 0, none⟩) 1 1)).run Tryd.prog W = .ok (.string ⟨#[UInt8.ofNat l]⟩) W := fun W g h => by
        refine run_convert_bytes_back W 22 9 5 _ 1 [UInt8.ofNat l] Tryd.underlying22 Tryd.underlying5 Tryd.underlying9 fun j hj => ?_
        obtain rfl : j = 0 := by simp at hj; omega
        rw [add_at, h, ← byte_wrap l (by omega)]; rfl
      have kJ : Hid (∀ (bk o' n c : Nat) (y : ByteArray) (W : World), Jn w1.heap.size (cat PA) b o cp (cat P) bk o' n c y → Sg w1 w1.heap.size PA b o P W → Calls Tryd.prog 31 #[.slice (some ⟨bk, o', none⟩) n c, .string ⟨#[]⟩] W fun e w' => e = .returned (.string y) ∧ Sg w1 w1.heap.size PA b o P w' ∧ Keep W w') := by
        intro bk o' n c y W hj hW
        rcases hj with ⟨rfl, rfl, rfl, rfl, rfl⟩ | ⟨rfl, rfl, rfl, rfl, rfl⟩
        · exact kJ1.out W hW
        · exact kJ2.out W hW
      have J1 : Jn w1.heap.size (cat PA) b o cp (cat P) w1.heap.size 0 11 11 (cat PA) := .inl ⟨rfl, rfl, rfl, rfl, rfl⟩
      have J2 : Jn w1.heap.size (cat PA) b o cp (cat P) b o 2 cp (cat P) := .inr ⟨rfl, rfl, rfl, rfl, rfl⟩
      clear kJ1 kJ2
      generalize cat PA = A at *
      generalize cat P = C at *
      have hA88' : A.size ≤ 88 := by omega
      clear hA88
      have hz1 : (⟨#[UInt8.ofNat l]⟩ : ByteArray).size = 1 := rfl
      have hg1 : ¬ 9223372036854775807 < A.size + (⟨#[UInt8.ofNat l]⟩ : ByteArray).size := by rw [hz1]; omega
      have hg2 : ¬ 9223372036854775807 < (A ++ ⟨#[UInt8.ofNat l]⟩).size + C.size := by rw [ByteArray.size_append, hz1]; omega
      have hg3 : ¬ 9223372036854775807 < A.size + 1 := by omega
      have hg4 : ¬ 9223372036854775807 < A.size + 1 + C.size := by omega
      have hwl : IntKind.u8.wrap (l : Int) = (l : Int) := by simp [IntKind.wrap, IntKind.bits, IntKind.signed]; omega
      clear hfr hb2 hb3 hb02 hb HS HS2 HS3 hSP hth hB hz1
      go_wp2
      go_region_with ((go_at_call 31; refine (kJ.out _ _ _ _ _ _ (by assumption) (by first | assumption | exact HSG.out.drew | exact (HSG.out.alloc _).drew | exact Sg.alloc (by assumption) _ | exact HSG.out.drew.alloc _)).mono ?_; rintro e w' ⟨rfl, hw', hk⟩; first | have hq := hk _ _ hq | have hq := hk _ _ (cell_new _ _) | have hq := hk _ _ (cell_newD _ _) | skip))
      all_goals
        have HBE : Hid (Below w1.heap.size w1 w') := hw'.2.2.2.2
        clear hw' hk
        go_wp2
        go_ret
        first | exact ⟨by rw [← HE.out]; rfl, HBE.out⟩ | exact ⟨by rw [← HE.out]; rfl, HBE.out.alloc HBE.out.size _⟩
theorem impl_signI (l : Int) (hl0 : -9223372036854775808 ≤ l) (hl1 : l ≤ 9223372036854775807) (x m : ByteArray) (w : World) (hx : x.size ≤ 1099511627000) (hm : m.size ≤ 1099511627776) (hT : Tab w) :
    Calls Tryd.prog 13 #[.string x, .int .i64 l, .string m] w fun e w' => e = .returned (.string (signI x l m)) ∧ Below w.heap.size w w' := by
  have kI := fun W => impl_leafIs l hl0 hl1 W
  rcases hI : leafIs l with _ | _
  · have HE : Hid (signI x l m = ⟨#[]⟩) := signI_no l hI x m
    rw [hI] at kI
    clear hI
    go_enter Tryd.func13, Tryd.ntmps13
    go_wp2_with fail
    refine (kI w).mono ?_
    rintro e w1 ⟨rfl, rfl⟩
    go_wp2
    go_ret
    exact ⟨by rw [HE.out]; rfl, Below.refl _ _⟩
  · obtain ⟨t, rfl, ht⟩ := leaf_nat hI
    rw [signI_of t ht]
    exact impl_sign t ht x m w hx hm hT
end Go.Proofs.YtppkjpfofgfiaaaDoor
