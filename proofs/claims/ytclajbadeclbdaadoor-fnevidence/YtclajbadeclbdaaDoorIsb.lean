/- What impl.shaWords answers: the 64 words of a block; old memory stays. Conditions: a block of 64 bytes. -/
import Derived.Test.YtclajbadeclbdaaDoorIsa
import Derived.Test.YtclajbadeclbdaaDoorSha2
import Derived.Deep.MidRow
import Derived.Deep.WholeRow
import Derived.BigRegion
import Derived.Deep.Heap
namespace Go.Proofs.YtclajbadeclbdaaDoor
open Go.RowKit
open Num
set_option linter.unusedVariables false
/-- An array variable's block. -/
def Au (w : World) (g : Nat) (t : TypeId) (l : List Value) : Prop := w.heap[g]? = some (.cells l.toArray t (0, 0))
theorem Au.lt {w : World} {g : Nat} {t : TypeId} {l : List Value} (h : Au w g t l) : g < w.heap.size := (Array.getElem?_eq_some_iff.1 h).1
theorem Au.cell {w : World} {g : Nat} {t : TypeId} {l : List Value} (h : Au w g t l) {j : Nat} {v : Value} (hj : l[j]? = some v) : w.cell? ⟨g, j, none⟩ = some v := by
  rw [cell_of_row w g j _ t (0, 0) h]; simpa using hj
theorem Au.frozen {w : World} {g : Nat} {t : TypeId} {l : List Value} (h : Au w g t l) (j : Nat) : w.frozen? ⟨g, j, none⟩ = false := by
  have h' : w.heap[g]? = _ := h
  simp [World.frozen?, h']
theorem Au.range {w : World} {g : Nat} {t : TypeId} {l : List Value} (h : Au w g t l) : w.rangeAt g 0 l := fun j v hv => by
  rw [Nat.zero_add]; exact h.cell hv
theorem Au.there {w : World} {g : Nat} {t : TypeId} {l : List Value} (h : Au w g t l) (n : Nat) (hn : n ≤ l.length) : w.there g 0 n := fun j hj => by
  rw [Nat.zero_add]
  refine ⟨?_, h.frozen j⟩
  rw [h.cell (List.getElem?_eq_getElem (by omega))]; rfl
theorem Au.set {w : World} {g : Nat} {t : TypeId} {l : List Value} (h : Au w g t l) (n : Nat) (v : Value) : Au (w.setCell ⟨g, n, none⟩ v) g t (l.set n v) := by
  have h' : w.heap[g]? = _ := h
  show (w.heap.modify g _)[g]? = _
  rw [Array.getElem?_modify]
  simp [h']
theorem Au.setOther {w : World} {g : Nat} {t : TypeId} {l : List Value} (h : Au w g t l) (a : Addr) (v : Value) (hne : g ≠ a.block) : Au (w.setCell a v) g t l :=
  (Deep.blk_setCell_other w a v g hne).trans h
theorem Au.alloc {w : World} {g : Nat} {t : TypeId} {l : List Value} (h : Au w g t l) (o : Obj) : Au (w.alloc o) g t l := by
  unfold Au; rw [Below.heap_alloc _ _ _ h.lt]; exact h
theorem Au.new (w : World) (t : TypeId) (l : List Value) : Au (w.alloc (.cells l.toArray t)) w.heap.size t l := heap_alloc_new w _
theorem below_setCells {B : Nat} {a : World} {g : Nat} (hg : B ≤ g) : ∀ (vs : List Value) (o : Nat) (w : World), Below B a w → Below B a (w.setCells g o vs)
  | [], _, _, h => h
  | v :: r, o, w, h => by
    rw [World.setCells]
    exact below_setCells hg r (o + 1) _ (h.setCell (p := ⟨g, o, none⟩) hg v)
theorem Au.setAll {g : Nat} {t : TypeId} : ∀ (vs p l : List Value) (w : World), Au w g t (p ++ l) → l.length = vs.length → Au (w.setCells g p.length vs) g t (p ++ vs)
  | [], p, l, w, h, hl => by
    obtain rfl : l = [] := List.eq_nil_of_length_eq_zero hl
    exact h
  | v :: r, p, l, w, h, hl => by
    obtain ⟨a, l', rfl⟩ : ∃ a l', l = a :: l' := by
      cases l with
      | nil => simp at hl
      | cons a l' => exact ⟨a, l', rfl⟩
    rw [World.setCells]
    have h1 := h.set p.length v
    rw [show (p ++ a :: l').set p.length v = (p ++ [v]) ++ l' from by simp] at h1
    have h2 := Au.setAll r (p ++ [v]) l' _ h1 (by simpa using hl)
    simpa using h2
theorem Au.store {w : World} {g : Nat} {t : TypeId} {l vs : List Value} (h : Au w g t l) (hl : l.length = vs.length) : Au (w.setCells g 0 vs) g t vs :=
  Au.setAll vs [] l w h hl
/-- A word as a cell. -/
def uv (x : Nat) : Value := .int .u32 (x : Int)
def partu (l : List Nat) : List Value := l.map uv ++ List.replicate (64 - l.length) (uv 0)
theorem zero47 : (∀ w, (zeroValue 138).run Tryd.prog w = .ok (.agg (List.replicate 64 (uv 0)).toArray) w) ∧ (Tryd.prog.info? 138).map (·.size) = some 64 := zero_of_info (by kernel_rfl)
theorem partu_set (l : List Nat) (x : Nat) (h : l.length < 64) : (partu l).set l.length (uv x) = partu (l ++ [x]) := by
  unfold partu
  rw [show 64 - l.length = (64 - (l ++ [x]).length) + 1 from by simp; omega, List.replicate_succ]
  simp
theorem partu_at (l : List Nat) (j : Nat) (h : j < l.length) : (partu l)[j]? = some (uv (l.getD j 0)) := by
  unfold partu
  rw [List.getElem?_append_left (by simpa using h)]
  simp [List.getElem?_eq_getElem h]
theorem partu_behind (l : List Nat) (h : l.length < 64) : (partu l)[l.length]? = some (uv 0) := by
  unfold partu
  rw [List.getElem?_append_right (by simp), List.length_map, Nat.sub_self, List.getElem?_replicate, if_pos (by omega)]
theorem partu_nil : partu [] = List.replicate 64 (uv 0) := rfl
theorem partu_full (l : List Nat) (h : l.length = 64) : partu l = l.map uv := by
  unfold partu; rw [h]; simp
theorem length_partu (l : List Nat) (h : l.length ≤ 64) : (partu l).length = 64 := by
  unfold partu; simp; omega
theorem uv_one (l : List Nat) : ∀ u ∈ l.map uv, u.oneCell' = true := by
  intro v hv
  obtain ⟨c, _, rfl⟩ := List.mem_map.1 hv
  rfl
/-- The first n words of a block. -/
def pre (l : List UInt8) (n : Nat) : List Nat := if n < 16 then words l n else sched (words l 16) (n - 16)
theorem length_pre (l : List UInt8) (n : Nat) : (pre l n).length = n := by
  unfold pre
  split
  · exact length_words l n
  · rw [length_sched, length_words]; omega
theorem pre_low (l : List UInt8) (n : Nat) (h : n < 16) : pre l (n + 1) = pre l n ++ [four l n] := by
  have e : pre l (n + 1) = words l (n + 1) := by
    unfold pre
    by_cases h' : n + 1 < 16
    · rw [if_pos h']
    · obtain rfl : n = 15 := by omega
      rfl
  rw [e, words_succ, pre, if_pos h]
theorem pre_high (l : List UInt8) (n : Nat) (h : 16 ≤ n) : pre l (n + 1) = pre l n ++ [wnext (pre l n)] := by
  unfold pre
  rw [if_neg (by omega), if_neg (by omega), show n + 1 - 16 = (n - 16) + 1 from by omega]
  rfl
theorem pre_lt (l : List UInt8) (n : Nat) : ∀ x ∈ pre l n, x < 4294967296 := by
  have hw : ∀ k, ∀ x ∈ words l k, x < 4294967296 := by
    intro k x hx
    obtain ⟨j, _, rfl⟩ := List.mem_map.1 hx
    exact four_lt _ _
  unfold pre
  split
  · exact hw n
  · exact sched_lt _ (hw 16) _
theorem oru_four (a b c d : UInt8) :
    bits .or .u32 (bits .or .u32 (bits .or .u32 ((a.toNat : Int) % 4294967296 * 16777216 % 4294967296) ((b.toNat : Int) % 4294967296 * 65536 % 4294967296)) ((c.toNat : Int) % 4294967296 * 256 % 4294967296)) ((d.toNat : Int) % 4294967296) = ((a.toNat * 16777216 + b.toNat * 65536 + c.toNat * 256 + d.toNat : Nat) : Int) := by
  have ha := a.toNat_lt
  have hb := b.toNat_lt
  have hc := c.toNat_lt
  have hd := d.toNat_lt
  generalize a.toNat = A at *
  generalize b.toNat = B at *
  generalize c.toNat = C at *
  generalize d.toNat = D at *
  rw [show (A : Int) % 4294967296 * 16777216 % 4294967296 = ((2 ^ 24 * A : Nat) : Int) from by omega, show (B : Int) % 4294967296 * 65536 % 4294967296 = ((B * 65536 : Nat) : Int) from by omega, show (C : Int) % 4294967296 * 256 % 4294967296 = ((C * 256 : Nat) : Int) from by omega, show (D : Int) % 4294967296 = (D : Int) from by omega]
  rw [u32_or_nat _ _ (by omega) (by omega), ← Nat.two_pow_add_eq_or_of_lt (show B * 65536 < 2 ^ 24 from by omega)]
  rw [show 2 ^ 24 * A + B * 65536 = 2 ^ 16 * (256 * A + B) from by omega]
  rw [u32_or_nat _ _ (by omega) (by omega), ← Nat.two_pow_add_eq_or_of_lt (show C * 256 < 2 ^ 16 from by omega)]
  rw [show 2 ^ 16 * (256 * A + B) + C * 256 = 2 ^ 8 * (65536 * A + 256 * B + C) from by omega]
  rw [u32_or_nat _ _ (by omega) (by omega), ← Nat.two_pow_add_eq_or_of_lt (show D < 2 ^ 8 from by omega)]
  congr 1
  omega
def shf (a b c : Int) (x : Nat) : Nat := rr a.toNat x ^^^ rr b.toNat x ^^^ x / 2 ^ c.toNat
theorem impl_shiftedi (x : Nat) (a b c : Int) (hx : x < 4294967296) (ha1 : 1 ≤ a) (ha2 : a ≤ 31) (hb1 : 1 ≤ b) (hb2 : b ≤ 31) (hc1 : 1 ≤ c) (hc2 : c ≤ 31) (w : World) :
    Calls Tryd.prog 115 #[.int .u32 (x : Int), .int .i64 a, .int .i64 b, .int .i64 c] w fun e w' => e = .returned (.int .u32 ((shf a b c x : Nat) : Int)) ∧ ∃ m, w' = w.drewN m := by
  obtain ⟨a', rfl⟩ : ∃ m : Nat, a = (m : Int) := ⟨a.toNat, by omega⟩
  obtain ⟨b', rfl⟩ : ∃ m : Nat, b = (m : Int) := ⟨b.toNat, by omega⟩
  obtain ⟨c', rfl⟩ : ∃ m : Nat, c = (m : Int) := ⟨c.toNat, by omega⟩
  exact impl_shifted x a' b' c' hx (by omega) (by omega) (by omega) (by omega) (by omega) (by omega) w
theorem shf_sg1 (x : Nat) : shf 17 19 10 x = sg1 x := rfl
theorem shf_sg0 (x : Nat) : shf 7 18 3 x = sg0 x := rfl
theorem Au.readu {w : World} {g : Nat} {l : List Nat} (h : Au w g 138 (partu l)) (hb : ∀ x ∈ l, x < 4294967296) (j : Nat) (hj : j < l.length) :
    ∃ x : Nat, x < 4294967296 ∧ w.cell? ⟨g, j, none⟩ = some (.int .u32 (x : Int)) ∧ Hid (l.getD j 0 = x) := by
  refine ⟨l.getD j 0, ?_, h.cell (partu_at l j hj), rfl⟩
  rw [List.getD_eq_getElem?_getD, List.getElem?_eq_getElem hj]
  exact hb _ (List.getElem_mem hj)
theorem u32_mod (x : Nat) : IntKind.u32.wrap (x : Int) = ((x % 4294967296 : Nat) : Int) := by rw [IntKind.wrap_u32']; omega
set_option maxHeartbeats 800000 in
set_option maxRecDepth 100000 in
theorem impl_words (s : ByteArray) (w : World) (hs : s.size = 64) :
    Calls Tryd.prog 113 #[.string s] w fun e w' => e = .returned (.agg ((sched (words s.data.toList 16) 48).map uv).toArray) ∧ Below w.heap.size w w' := by
  obtain ⟨Z, HZ⟩ : ∃ Z : List Value, Hid (Z = List.replicate 64 (uv 0)) := ⟨_, rfl⟩
  have hz := zero47.1
  rw [← HZ.out] at hz
  have HS : Hid (s.size = 64) := hs
  clear hs
  go_enter Tryd.func113, Tryd.ntmps113
  go_wp2
  go_loopw [5] (fun i wr => ∃ n : Nat, n ≤ 64 ∧ i = .int .i64 n ∧ Hid (Au wr (w.heap.size + 1) 138 (partu (pre s.data.toList n))) ∧ Hid (Au wr w.heap.size 138 Z) ∧ Below w.heap.size w wr) (fun i _ => 64 - (intOf i).toNat)
  case atStart =>
    refine ⟨0, by omega, rfl, ?_, ?_, ?_⟩
    · rw [show pre s.data.toList 0 = [] from rfl, partu_nil, ← HZ.out]
      have := Au.new (w.alloc (.cells Z.toArray 138)) 138 Z
      rw [World.size_alloc] at this
      exact this
    · exact (Au.new w 138 Z).alloc _
    · exact ((Below.refl _ _).alloc (Nat.le_refl _) _).alloc (by simp) _
  case round =>
    obtain ⟨n, hn, rfl, HR, HQ, hb⟩ := hrel
    have HLN : Hid (_ = _) := length_pre s.data.toList n
    by_cases hlt : n < 16
    · have hc : wr.cell? ⟨w.heap.size + 1, n, none⟩ = some (uv 0) := by
        have := partu_behind (pre s.data.toList n) (by rw [HLN.out]; omega)
        rw [HLN.out] at this
        exact HR.out.cell this
      have hf : wr.frozen? ⟨w.heap.size + 1, n, none⟩ = false := HR.out.frozen n
      have h0 : (4 * (n : Int)) < (s.size : Int) := by have := HS.out; omega
      have h1 : (4 * (n : Int) + 1) < (s.size : Int) := by have := HS.out; omega
      have h2 : (4 * (n : Int) + 2) < (s.size : Int) := by have := HS.out; omega
      have h3 : (4 * (n : Int) + 3) < (s.size : Int) := by have := HS.out; omega
      have n0 : 0 ≤ 4 * (n : Int) := by omega
      have n1 : 0 ≤ 4 * (n : Int) + 1 := by omega
      have n2 : 0 ≤ 4 * (n : Int) + 2 := by omega
      have n3 : 0 ≤ 4 * (n : Int) + 3 := by omega
      have nl : (n : Int) < 16 := by omega
      go_wp2
      go_region
      go_wp2
      go_roundw
      case rel =>
        refine ⟨n + 1, by omega, by go_num, ?_, HQ.out.setOther _ _ (by simp), (hb.setCell (p := ⟨w.heap.size + 1, n, none⟩) (by simp) _).drew⟩
        rw [oru_four, pre_low _ _ hlt, four_str s n (by omega) (by omega) (by omega) (by omega)]
        have := HR.out.set n (uv (s[4 * n].toNat * 16777216 + s[4 * n + 1].toNat * 65536 + s[4 * n + 2].toNat * 256 + s[4 * n + 3].toNat))
        have e := partu_set (pre s.data.toList n) (s[4 * n].toNat * 16777216 + s[4 * n + 1].toNat * 65536 + s[4 * n + 2].toNat * 256 + s[4 * n + 3].toNat) (by rw [HLN.out]; omega)
        rw [HLN.out] at e
        rw [e] at this
        exact this
      case measure => simp [intOf]; omega
    · by_cases hl2 : n < 64
      · have hall := pre_lt s.data.toList n
        obtain ⟨p0, hp0⟩ : ∃ p, p = n - 16 := ⟨_, rfl⟩
        obtain ⟨p1, hp1⟩ : ∃ p, p = n - 15 := ⟨_, rfl⟩
        obtain ⟨p9, hp9⟩ : ∃ p, p = n - 7 := ⟨_, rfl⟩
        obtain ⟨p14, hp14⟩ : ∃ p, p = n - 2 := ⟨_, rfl⟩
        obtain ⟨x0, hx0, c0, X0⟩ := HR.out.readu hall p0 (by rw [HLN.out]; omega)
        obtain ⟨x1, hx1, c1, X1⟩ := HR.out.readu hall p1 (by rw [HLN.out]; omega)
        obtain ⟨x9, hx9, c9, X9⟩ := HR.out.readu hall p9 (by rw [HLN.out]; omega)
        obtain ⟨x14, hx14, c14, X14⟩ := HR.out.readu hall p14 (by rw [HLN.out]; omega)
        have cs : wr.cell? ⟨w.heap.size + 1, n, none⟩ = some (uv 0) := by
          have := partu_behind (pre s.data.toList n) (by rw [HLN.out]; omega)
          rw [HLN.out] at this
          exact HR.out.cell this
        have hf : wr.frozen? ⟨w.heap.size + 1, n, none⟩ = false := HR.out.frozen n
        have e0 : IntKind.i64.wrap ((n : Int) - 16) = (p0 : Int) := by rw [IntKind.wrap_i64]; omega
        have e1 : IntKind.i64.wrap ((n : Int) - 15) = (p1 : Int) := by rw [IntKind.wrap_i64]; omega
        have e9 : IntKind.i64.wrap ((n : Int) - 7) = (p9 : Int) := by rw [IntKind.wrap_i64]; omega
        have e14 : IntKind.i64.wrap ((n : Int) - 2) = (p14 : Int) := by rw [IntKind.wrap_i64]; omega
        have b0 : (p0 : Int) < 64 := by omega
        have b1 : (p1 : Int) < 64 := by omega
        have b9 : (p9 : Int) < 64 := by omega
        have b14 : (p14 : Int) < 64 := by omega
        have bn : (n : Int) < 64 := by omega
        have bl : ¬ (n : Int) < 16 := by omega
        have HP0 : Hid (p0 = n - 16) := hp0
        have HP1 : Hid (p1 = n - 15) := hp1
        have HP9 : Hid (p9 = n - 7) := hp9
        have HP14 : Hid (p14 = n - 2) := hp14
        have HN : Hid (16 ≤ n) := by show _ ≤ _; omega
        have q0 : p0 < n := by omega
        have q1 : p1 < n := by omega
        have q9 : p9 < n := by omega
        have q14 : p14 < n := by omega
        clear hall hp0 hp1 hp9 hp14
        obtain ⟨A, hA, XA⟩ : ∃ A : Nat, A < 4294967296 ∧ shf 17 19 10 x14 = A := ⟨_, sg1_lt hx14, rfl⟩
        obtain ⟨D, hD, XD⟩ : ∃ D : Nat, D < 4294967296 ∧ shf 7 18 3 x1 = D := ⟨_, sg0_lt hx1, rfl⟩
        obtain ⟨y1, hy1⟩ : ∃ y, y = (A + x9) % 4294967296 := ⟨_, rfl⟩
        obtain ⟨y2, hy2⟩ : ∃ y, y = (y1 + D) % 4294967296 := ⟨_, rfl⟩
        obtain ⟨y3, hy3⟩ : ∃ y, y = (y2 + x0) % 4294967296 := ⟨_, rfl⟩
        have f1 : IntKind.u32.wrap ((A : Int) + (x9 : Int)) = (y1 : Int) := by rw [IntKind.wrap_u32']; omega
        have f2 : IntKind.u32.wrap ((y1 : Int) + (D : Int)) = (y2 : Int) := by rw [IntKind.wrap_u32']; omega
        have f3 : IntKind.u32.wrap ((y2 : Int) + (x0 : Int)) = (y3 : Int) := by rw [IntKind.wrap_u32']; omega
        have HY : Hid (y3 = (x0 + D + x9 + A) % 4294967296) := by show _ = _; omega
        clear hy1 hy2 hy3
        go_wp2
        go_region_held3 (fun W : World => W.cell? ⟨w.heap.size + 1, p0, none⟩ = some (.int .u32 (x0 : Int)) ∧ W.cell? ⟨w.heap.size + 1, p1, none⟩ = some (.int .u32 (x1 : Int)) ∧ W.cell? ⟨w.heap.size + 1, p9, none⟩ = some (.int .u32 (x9 : Int)) ∧ W.cell? ⟨w.heap.size + 1, p14, none⟩ = some (.int .u32 (x14 : Int))) (first | exact ⟨keep_cell c0 q0, keep_cell c1 q1, keep_cell c9 q9, keep_cell c14 q14⟩ | exact ⟨c0, c1, c9, c14⟩) ((go_at_call 115; refine (impl_shiftedi _ _ _ _ (by assumption) (by decide) (by decide) (by decide) (by decide) (by decide) (by decide) _).mono ?_; rintro e w' ⟨rfl, m, rfl⟩))
        all_goals
          have HW : Hid (y3 = wnext (pre s.data.toList n)) := by
            have k0 := X0.out
            have k1 := X1.out
            have k9 := X9.out
            have k14 := X14.out
            rw [HP0.out] at k0
            rw [HP1.out] at k1
            rw [HP9.out] at k9
            rw [HP14.out] at k14
            show _ = _
            unfold wnext
            rw [HLN.out, k0, k1, k9, k14, ← shf_sg0, ← shf_sg1, XA, XD]
            exact HY.out
          have HE : Hid (∀ q : Nat, Au ((wr.drewN q).setCell ⟨w.heap.size + 1, n, none⟩ (.int .u32 (y3 : Int))) (w.heap.size + 1) 138 (partu (pre s.data.toList (n + 1)))) := by
            intro q
            have hR : Au (wr.drewN q) (w.heap.size + 1) 138 (partu (pre s.data.toList n)) := HR.out
            have := hR.set n (uv y3)
            have e := partu_set (pre s.data.toList n) y3 (by rw [HLN.out]; omega)
            rw [HLN.out] at e
            rw [e] at this
            rw [pre_high _ _ HN.out, ← HW.out]
            exact this
          have HB : Hid (∀ q : Nat, Below w.heap.size w ((wr.drewN q).setCell ⟨w.heap.size + 1, n, none⟩ (.int .u32 (y3 : Int)))) := fun q => (below_drewN hb q).setCell (p := ⟨w.heap.size + 1, n, none⟩) (by simp) _
          have HQ2 : Hid (∀ q : Nat, Au ((wr.drewN q).setCell ⟨w.heap.size + 1, n, none⟩ (.int .u32 (y3 : Int))) w.heap.size 138 Z) := fun q => Au.setOther (show Au (wr.drewN q) _ _ _ from HQ.out) _ _ (by simp)
          clear f1 f2 f3 e0 e1 e9 e14 c0 c1 c9 c14 cs hf
          go_wp2
          go_roundw
          case rel => exact ⟨n + 1, by omega, by go_num, HE.out _, HQ2.out _, HB.out _⟩
          case measure => simp [intOf]; omega
      · obtain rfl : n = 64 := by omega
        have HF : Hid (partu (pre s.data.toList 64) = (sched (words s.data.toList 16) 48).map uv) := partu_full _ (length_pre _ _)
        have HL : Hid (((sched (words s.data.toList 16) 48).map uv).length = 64) := by
          show _ = _
          rw [List.length_map, length_sched, length_words]
        rw [HF.out] at HR
        obtain ⟨L, hL⟩ : ∃ L, L = (sched (words s.data.toList 16) 48).map uv := ⟨_, rfl⟩
        rw [← hL] at HR HL
        have HLE : Hid (L = (sched (words s.data.toList 16) 48).map uv) := hL
        have H1 : Hid (∀ u ∈ L, u.oneCell' = true) := by
          show ∀ u ∈ L, u.oneCell' = true
          rw [hL]; exact uv_one _
        clear hL HF
        have HZL : Hid (Z.length = 64) := by show _ = _; rw [HZ.out, List.length_replicate]
        have HI : Hid ((Tryd.prog.info? 138).map (·.size) = some 64) := zero47.2
        have HI2 : Hid ((Tryd.prog.info? 138).map (·.size) = some L.toArray.size) := by
          show _ = _
          rw [List.size_toArray, HL.out]; exact HI.out
        have HI3 : Hid ((Tryd.prog.info? 138).map (·.size) = some L.length) := by
          show _ = _
          rw [HL.out]; exact HI.out
        have HTH : Hid (wr.there w.heap.size 0 L.toArray.size) := HQ.out.there _ (by rw [HZL.out, List.size_toArray, HL.out]; exact Nat.le_refl _)
        have HB : Hid (Below w.heap.size w (wr.setCells w.heap.size 0 L)) := below_setCells (Nat.le_refl _) _ _ _ hb
        have HR2 : Hid ((wr.setCells w.heap.size 0 L).rangeAt w.heap.size 0 L) := World.rangeAt_setCells_same _ _ _ _ (by have := HTH.out; rw [List.size_toArray] at this; exact this)
        have HLD : Hid (_ = _) := run_loadVar_mid (P := Tryd.prog) _ w.heap.size 0 138 L _ HR2.out Tryd.underlying138 rfl HI3.out
        go_wp2_with (first | (refine wpList_load_mid rfl 138 _ rfl (w.heap.size + 1) 0 rfl L _ HR.out.range Tryd.underlying138 rfl HI3.out ?_) | (refine wpList_store_mid rfl 138 _ _ rfl w.heap.size 0 L.toArray rfl rfl HTH.out HI2.out (all_oneCell_toArray H1.out) ?_))
        have HAU : Hid (Au (wr.setCells w.heap.size 0 L) w.heap.size 138 L) := HQ.out.store (by rw [HZL.out, HL.out])
        refine bodyPost_ret (v := .agg L.toArray) ?_ rfl ⟨by rw [HLE.out], HB.out⟩
        exact results_cell_row rfl _ _ w.heap.size 138 L.toArray (0, 0) _ rfl HAU.out Tryd.underlying138 rfl HI2.out
end Go.Proofs.YtclajbadeclbdaaDoor
