/- What impl.shaOverAll answers: the eight words behind all blocks of a text that is whole blocks; old memory stays. Conditions: words below 2 to the 32, the table holds what the program's text lays. -/
import Derived.Test.YtclajbadeclbdaaDoorIsc
import Derived.Test.YtclajbadeclbdaaDoorSha3
namespace Go.Proofs.YtclajbadeclbdaaDoor
open Go.RowKit
open Num
set_option linter.unusedVariables false
/-- The state behind k blocks, from a state. -/
def blkn (v : V8) (t : List UInt8) : Nat → V8
  | 0 => v
  | k + 1 => blk (blkn v t k) ((t.drop (64 * k)).take 64)
theorem blkn_h0 (t : List UInt8) : ∀ k, blkn h0 t k = blks t k
  | 0 => rfl
  | k + 1 => by rw [blkn, blks, blkn_h0 t k]
theorem blkn_lt {v : V8} (hv : v.lt) (t : List UInt8) : ∀ k, (blkn v t k).lt
  | 0 => hv
  | k + 1 => blk_lt _ _
theorem blkn_left (v : V8) (a b : List UInt8) : ∀ k, 64 * k ≤ a.length → blkn v (a ++ b) k = blkn v a k
  | 0, _ => rfl
  | k + 1, h => by
    rw [blkn, blkn, blkn_left v a b k (by omega), List.drop_append_of_le_length (by omega), List.take_append_of_le_length (by simp; omega)]
theorem blkn_add (v : V8) (a b : List UInt8) (q : Nat) (h : a.length = 64 * q) : ∀ k, blkn v (a ++ b) (q + k) = blkn (blkn v a q) b k
  | 0 => by rw [Nat.add_zero, blkn_left v a b q (by omega)]; rfl
  | k + 1 => by
    rw [← Nat.add_assoc, blkn, blkn, blkn_add v a b q h k, List.drop_append, List.drop_eq_nil_of_le (by omega), List.nil_append, show 64 * (q + k) - a.length = 64 * k from by omega]
def Fac2 (w W : World) (V Y : List Value) : Prop := Au W w.heap.size 136 V ∧ Au W (w.heap.size + 1) 136 Y ∧ Below w.heap.size w W
theorem fac2_below {w W W' : World} {V Y : List Value} (F : Fac2 w W V Y) (hb : Below W.heap.size W W') : Fac2 w W' V Y :=
  ⟨(hb.block _ F.1.lt).trans F.1, (hb.block _ F.2.1.lt).trans F.2.1, F.2.2.trans (hb.mono F.2.2.size)⟩
theorem Au.others {g g' : Nat} {t : TypeId} {l : List Value} (hne : g ≠ g') : ∀ (vs : List Value) (o : Nat) (w : World), Au w g t l → Au (w.setCells g' o vs) g t l
  | [], _, _, h => h
  | v :: r, o, w, h => by
    rw [World.setCells]
    exact Au.others hne r (o + 1) _ (h.setOther ⟨g', o, none⟩ v hne)
theorem fac2_store {w W : World} {V Y V' : List Value} (F : Fac2 w W V Y) (hl : V.length = V'.length) : Fac2 w (W.setCells w.heap.size 0 V') V' Y :=
  ⟨F.1.store hl, Au.others (by omega) _ _ _ F.2.1, below_setCells (Nat.le_refl _) _ _ _ F.2.2⟩
/-- Eight words, written out. -/
def ag (v : V8) : Value := .agg #[.int .u32 (v.a : Int), .int .u32 (v.b : Int), .int .u32 (v.c : Int), .int .u32 (v.d : Int), .int .u32 (v.e : Int), .int .u32 (v.f : Int), .int .u32 (v.g : Int), .int .u32 (v.h : Int)]
def Cells8 (W : World) (g : Nat) (v : V8) : Prop :=
  W.cell? ⟨g, 0, none⟩ = some (.int .u32 (v.a : Int)) ∧ W.cell? ⟨g, 1, none⟩ = some (.int .u32 (v.b : Int)) ∧ W.cell? ⟨g, 2, none⟩ = some (.int .u32 (v.c : Int)) ∧ W.cell? ⟨g, 3, none⟩ = some (.int .u32 (v.d : Int)) ∧
  W.cell? ⟨g, 4, none⟩ = some (.int .u32 (v.e : Int)) ∧ W.cell? ⟨g, 5, none⟩ = some (.int .u32 (v.f : Int)) ∧ W.cell? ⟨g, 6, none⟩ = some (.int .u32 (v.g : Int)) ∧ W.cell? ⟨g, 7, none⟩ = some (.int .u32 (v.h : Int))
theorem Au.cells8 {W : World} {g : Nat} {v : V8} (h : Au W g 136 (v.l.map uv)) : Cells8 W g v :=
  ⟨h.cell rfl, h.cell rfl, h.cell rfl, h.cell rfl, h.cell rfl, h.cell rfl, h.cell rfl, h.cell rfl⟩
/-- Eight words stored one by one. -/
def put8 (W : World) (g : Nat) (v : V8) : World := ((((((((W.setCell ⟨g, 0, none⟩ (.int .u32 (v.a : Int))).setCell ⟨g, 1, none⟩ (.int .u32 (v.b : Int))).setCell ⟨g, 2, none⟩ (.int .u32 (v.c : Int))).setCell ⟨g, 3, none⟩ (.int .u32 (v.d : Int))).setCell ⟨g, 4, none⟩ (.int .u32 (v.e : Int))).setCell ⟨g, 5, none⟩ (.int .u32 (v.f : Int))).setCell ⟨g, 6, none⟩ (.int .u32 (v.g : Int))).setCell ⟨g, 7, none⟩ (.int .u32 (v.h : Int)))
theorem put8_eq (W : World) (g : Nat) (v : V8) : put8 W g v = W.setCells g 0 (v.l.map uv) := rfl
theorem impl_block8 (v : V8) (s : ByteArray) (w : World) (hs : s.size = 64) (hv : v.lt) (hT : Tab w) :
    Calls Tryd.prog 112 #[.agg #[.int .u32 (v.a : Int), .int .u32 (v.b : Int), .int .u32 (v.c : Int), .int .u32 (v.d : Int), .int .u32 (v.e : Int), .int .u32 (v.f : Int), .int .u32 (v.g : Int), .int .u32 (v.h : Int)], .string s] w fun e w' =>
      ∃ B : V8, Hid (B = blk v s.data.toList) ∧ e = .returned (.agg #[.int .u32 (B.a : Int), .int .u32 (B.b : Int), .int .u32 (B.c : Int), .int .u32 (B.d : Int), .int .u32 (B.e : Int), .int .u32 (B.f : Int), .int .u32 (B.g : Int), .int .u32 (B.h : Int)]) ∧ Below w.heap.size w w' :=
  (impl_block v s w hs hv hT).mono fun e w' ⟨he, hb⟩ => ⟨_, rfl, he, hb⟩
theorem length_vl (v : V8) : (v.l.map uv).length = 8 := rfl
set_option maxHeartbeats 1600000 in
set_option maxRecDepth 100000 in
theorem impl_all (v : V8) (s : ByteArray) (q : Nat) (w : World) (hs : s.size = 64 * q) (hq : q ≤ 17179869188) (hv : v.lt) (hT : Tab w) :
    Calls Tryd.prog 110 #[.agg (v.l.map uv).toArray, .string s] w fun e w' => e = .returned (.agg ((blkn v s.data.toList q).l.map uv).toArray) ∧ Below w.heap.size w w' := by
  obtain ⟨Y, HY⟩ : ∃ Y : List Value, Hid (Y = List.replicate 8 (uv 0)) := ⟨_, rfl⟩
  obtain ⟨V, HV⟩ : ∃ V : List Value, Hid (V = v.l.map uv) := ⟨_, rfl⟩
  have hy := zero33.1
  rw [← HY.out] at hy
  rw [← HV.out]
  have HS : Hid (s.size = 64 * q) := hs
  have HT : Hid (Tab w) := hT
  have HVL : Hid v.lt := hv
  have hss : (s.size : Int).tdiv 64 = (q : Int) := by rw [hs, Int.tdiv_eq_ediv_of_nonneg (by omega)]; omega
  have hsm : s.size ≤ 1099511628032 := by omega
  clear hs hT hv
  go_enter Tryd.func110, Tryd.ntmps110
  go_wp2
  go_loopw [9] (fun i wr => ∃ n : Nat, n ≤ q ∧ i = .int .i64 n ∧ Hid (Fac2 w wr ((blkn v s.data.toList n).l.map uv) Y)) (fun i _ => q - (intOf i).toNat)
  case atStart =>
    refine ⟨0, by omega, rfl, ?_, ?_, ?_⟩
    · have := (Au.new w 136 V).alloc (.cells Y.toArray 136)
      rw [HV.out] at this ⊢
      exact this
    · have := Au.new (w.alloc (.cells V.toArray 136)) 136 Y
      rw [World.size_alloc] at this; exact this
    · exact ((Below.refl _ _).alloc (Nat.le_refl _) _).alloc (by simp) _
  case round =>
    obtain ⟨n, hn, rfl, HF⟩ := hrel
    by_cases hlt : n < q
    · have hlt' : (n : Int) < (q : Int) := by omega
      obtain ⟨p1, hp1⟩ : ∃ p1, p1 = 64 * n := ⟨_, rfl⟩
      obtain ⟨m1, hm1⟩ : ∃ m1, m1 = n + 1 := ⟨_, rfl⟩
      obtain ⟨r1, hr1⟩ : ∃ r1, r1 = p1 + 64 := ⟨_, rfl⟩
      have e1 : IntKind.i64.wrap ((n : Int) * 64) = (p1 : Int) := by rw [IntKind.wrap_i64]; omega
      have e2 : IntKind.i64.wrap ((n : Int) + 1) = (m1 : Int) := by rw [IntKind.wrap_i64]; omega
      have e3 : IntKind.i64.wrap ((m1 : Int) * 64) = (r1 : Int) := by rw [IntKind.wrap_i64]; omega
      have b1 : (p1 : Int) ≤ (r1 : Int) := by omega
      have b2 : (r1 : Int) ≤ (s.size : Int) := by have := HS.out; omega
      have HTS : Hid ((s.extract p1 r1).size = 64) := by show _ = _; rw [hr1]; exact sub_size s _ _ (by have := HS.out; omega)
      have HBL : Hid (blk (blkn v s.data.toList n) (s.extract p1 r1).data.toList = blkn v s.data.toList (n + 1)) := by
        show _ = _
        rw [hr1, hp1, sub_list]; rfl
      have HN : Hid (Tab wr) := HT.out.below HF.out.2.2 HT.out.pos
      have HVN : Hid (blkn v s.data.toList n).lt := blkn_lt HVL.out _ _
      clear hp1 hm1 hr1
      generalize hvn : blkn v s.data.toList n = vn at *
      obtain ⟨c0, c1, c2, c3, c4, c5, c6, c7⟩ := HF.out.1.cells8
      have HN' : Hid (Tab wr.drew) := HN
      have HF' : Hid (Fac2 w wr.drew (vn.l.map uv) Y) := ⟨HF.out.1, HF.out.2.1, HF.out.2.2.drew⟩
      go_wp2
      go_region_with ((go_at_call 112; refine (impl_block8 vn (s.extract p1 r1) _ HTS.out HVN.out HN'.out).mono ?_; rintro e w2 ⟨B, HB, rfl, hb2⟩; have HF2 : Hid (Fac2 w w2 (vn.l.map uv) Y) := fac2_below HF'.out hb2; obtain ⟨d0, d1, d2, d3, d4, d5, d6, d7⟩ := HF2.out.1.cells8; have ff : ∀ j, w2.frozen? ⟨w.heap.size, j, none⟩ = false := HF2.out.1.frozen))
      have HF3 : Hid (Fac2 w (put8 w2 w.heap.size B) ((blkn v s.data.toList (n + 1)).l.map uv) Y) := by
        rw [← HBL.out, ← HB.out, put8_eq]
        exact fac2_store HF2.out ((length_vl _).trans (length_vl _).symm)
      clear c0 c1 c2 c3 c4 c5 c6 c7 d0 d1 d2 d3 d4 d5 d6 d7 ff HF2 HF' HF HN HN' e1 e2 e3
      go_wp2
      go_roundw
      case rel => exact ⟨n + 1, by omega, by go_num, HF3⟩
      case measure => simp [intOf]; omega
    · obtain rfl : n = q := by omega
      obtain ⟨R, hR⟩ : ∃ R, R = (blkn v s.data.toList n).l.map uv := ⟨_, rfl⟩
      have HRE : Hid (R = (blkn v s.data.toList n).l.map uv) := hR
      have HRL : Hid (R.length = 8) := by show _ = _; rw [hR]; rfl
      have HR1 : Hid (∀ u ∈ R, u.oneCell' = true) := by
        show ∀ u ∈ R, u.oneCell' = true
        rw [hR]; exact uv_one _
      rw [← hR] at HF
      clear hR
      have HY8 : Hid (Y.length = 8) := by show _ = _; rw [HY.out]; rfl
      obtain ⟨A0, A1, hbw⟩ := HF.out
      have HA0 : Hid (Au wr w.heap.size 136 R) := A0
      have HI2 : Hid ((Tryd.prog.info? 136).map (·.size) = some R.toArray.size) := by
        show _ = _
        rw [List.size_toArray, HRL.out]; exact zero33.2
      have HI3 : Hid ((Tryd.prog.info? 136).map (·.size) = some R.length) := by
        show _ = _
        rw [HRL.out]; exact zero33.2
      have HTH : Hid (wr.there (w.heap.size + 1) 0 R.toArray.size) := A1.there _ (by rw [HY8.out, List.size_toArray, HRL.out]; exact Nat.le_refl _)
      have HBB : Hid (Below w.heap.size w (wr.setCells (w.heap.size + 1) 0 R)) := below_setCells (Nat.le_succ _) _ _ _ hbw
      have HAU : Hid (Au (wr.setCells (w.heap.size + 1) 0 R) (w.heap.size + 1) 136 R) := A1.store (by rw [HY8.out, HRL.out])
      clear A0 A1 hbw hlt
      go_wp2_with (first | (refine wpList_load_mid rfl 136 _ rfl w.heap.size 0 rfl R _ HA0.out.range Tryd.underlying136 rfl HI3.out ?_) | (refine wpList_store_mid rfl 136 _ _ rfl (w.heap.size + 1) 0 R.toArray rfl rfl HTH.out HI2.out (all_oneCell_toArray HR1.out) ?_))
      refine bodyPost_ret (v := .agg R.toArray) ?_ rfl ⟨by rw [HRE.out], HBB.out⟩
      exact results_cell_row rfl _ _ (w.heap.size + 1) 136 R.toArray (0, 0) _ rfl HAU.out Tryd.underlying136 rfl HI2.out
end Go.Proofs.YtclajbadeclbdaaDoor
