/- What spec.l3Block answers: the eight words behind a block of 64 bytes; old memory stays. -/
import Derived.Test.YtmjlpdmdpagggaaSha1
import Derived.Test.YtmjlpdmdpagggaaLaw
import Derived.Deep.RegionLaw
import Derived.Deep.RegionHeld3
import Derived.Deep.AppendLies
import Derived.Laws.OwnMore
import Derived.Laws.DeepNot64
import Derived.Deep.QuietTactic
import Derived.BigQuiet
namespace Go.Proofs.Ytmjlpdmdpagggaa
open Go.RowKit
open Num
set_option linter.unusedVariables false
theorem info3f : ∃ i, Try.prog.info? 3 = some i ∧ i.zero = some (.int .i64 0) ∧ i.size = 1 ∧ i.bytes = 8 :=
  info_parts (by kernel_rfl)
/-- The first n words of a row of 64, nothing behind. -/
def part (l : List Nat) : List Value := l.map iv ++ List.replicate (64 - l.length) (iv 0)
theorem part_set (l : List Nat) (x : Nat) (h : l.length < 64) : (part l).set l.length (iv x) = part (l ++ [x]) := by
  unfold part
  rw [List.set_append_right _ _ (by simp)]
  obtain ⟨m, hm⟩ : ∃ m, 64 - l.length = m + 1 := ⟨64 - l.length - 1, by omega⟩
  have hm' : 64 - (l ++ [x]).length = m := by simp; omega
  rw [hm, hm']
  simp [List.replicate_succ]
theorem part_at (l : List Nat) (j : Nat) (h : j < l.length) : (part l)[j]? = some (iv (l.getD j 0)) := by
  unfold part
  rw [List.getElem?_append_left (by simpa using h)]
  simp [h]
theorem part_behind (l : List Nat) (h : l.length < 64) : (part l)[l.length]? = some (iv 0) := by
  unfold part
  rw [List.getElem?_append_right (by simp)]
  simp only [List.length_map, Nat.sub_self]
  obtain ⟨m, hm⟩ : ∃ m, 64 - l.length = m + 1 := ⟨64 - l.length - 1, by omega⟩
  rw [hm]; rfl
theorem made_zero64 : (madeCells (Value.int IntKind.i64 0).cells (64 * 1)).toList = part [] := by
  have : (Value.int IntKind.i64 0).cells = #[.int .i64 0] := rfl
  rw [this, toList_madeCells_one]; rfl
theorem words_succ (l : List UInt8) (n : Nat) : words l (n + 1) = words l n ++ [four l n] := by
  unfold words; rw [List.range_succ, List.map_append]; rfl
theorem length_words (l : List UInt8) (n : Nat) : (words l n).length = n := by simp [words]
abbrev Wd (w : World) (g : Nat) (l : List Nat) : Prop := w.ownsRow g 3 1 (.slice (some ⟨g, 0, none⟩) 64 64) 64 (part l)
theorem Wd.put {w : World} {g : Nat} {l : List Nat} (h : Wd w g l) (x : Nat) (hl : l.length < 64) (n : Nat) (hn : l.length = n) : Wd (w.setCell ⟨g, n, none⟩ (iv x)) g (l ++ [x]) := by
  subst hn
  have := (h.stored l.length (iv x)).1
  rw [part_set l x hl] at this
  exact this
theorem Wd.read {w : World} {g : Nat} {l : List Nat} (h : Wd w g l) (hb : ∀ x ∈ l, x < 4294967296) (j : Nat) (hj : j < l.length) (hl : l.length ≤ 64) :
    ∃ x : Nat, x < 4294967296 ∧ w.cell? ⟨g, j, none⟩ = some (.int .i64 (x : Int)) ∧ Hid (l.getD j 0 = x) := by
  refine ⟨l.getD j 0, ?_, ?_, rfl⟩
  · rw [List.getD_eq_getElem?_getD, List.getElem?_eq_getElem hj]
    exact hb _ (List.getElem_mem hj)
  · rw [h.cellAt j (by omega), part_at l j hj]; rfl
theorem wrap_small (x : Nat) (h : x < 9223372036854775808) : wrap64 (x : Int) = (x : Int) := by unfold wrap64; omega
theorem or_four (a b c d : UInt8) :
    bits .or .i64 (bits .or .i64 (bits .or .i64 (wrap64 (wrap64 (a.toNat : Int) * 16777216)) (wrap64 (wrap64 (b.toNat : Int) * 65536))) (wrap64 (wrap64 (c.toNat : Int) * 256))) (wrap64 (d.toNat : Int)) = ((a.toNat * 16777216 + b.toNat * 65536 + c.toNat * 256 + d.toNat : Nat) : Int) := by
  have ha := a.toNat_lt
  have hb := b.toNat_lt
  have hc := c.toNat_lt
  have hd := d.toNat_lt
  generalize a.toNat = A at *
  generalize b.toNat = B at *
  generalize c.toNat = C at *
  generalize d.toNat = D at *
  rw [wrap_small A (by omega), wrap_small B (by omega), wrap_small C (by omega), wrap_small D (by omega)]
  rw [show (A : Int) * 16777216 = ((2 ^ 24 * A : Nat) : Int) from by omega, show (B : Int) * 65536 = ((B * 65536 : Nat) : Int) from by omega, show (C : Int) * 256 = ((C * 256 : Nat) : Int) from by omega]
  rw [wrap_small _ (by omega), wrap_small _ (by omega), wrap_small _ (by omega)]
  rw [i64_or _ _ (by omega) (by omega), ← Nat.two_pow_add_eq_or_of_lt (show B * 65536 < 2 ^ 24 from by omega)]
  rw [show 2 ^ 24 * A + B * 65536 = 2 ^ 16 * (256 * A + B) from by omega]
  rw [i64_or _ _ (by omega) (by omega), ← Nat.two_pow_add_eq_or_of_lt (show C * 256 < 2 ^ 16 from by omega)]
  rw [show 2 ^ 16 * (256 * A + B) + C * 256 = 2 ^ 8 * (65536 * A + 256 * B + C) from by omega]
  rw [i64_or _ _ (by omega) (by omega), ← Nat.two_pow_add_eq_or_of_lt (show D < 2 ^ 8 from by omega)]
  congr 1
  omega
theorem keep_cell {w : World} {g n p : Nat} {u v : Value} (h : w.cell? ⟨g, p, none⟩ = some u) (hp : p < n) : (w.setCell ⟨g, n, none⟩ v).drew.cell? ⟨g, p, none⟩ = some u :=
  (World.cell?_setCell_other w ⟨g, n, none⟩ ⟨g, p, none⟩ v (fun e => by injection e; omega)).trans h
theorem sg0_eq (x : Nat) (h : x < 4294967296) : bits .xor .i64 (bits .xor .i64 ((rr 7 x : Nat) : Int) ((rr 18 x : Nat) : Int)) ((x : Int) / 8) = ((sg0 x : Nat) : Int) := by
  have h1 := rr_lt 7 x
  have h2 := rr_lt 18 x
  have h3 := xor32 h1 h2
  rw [i64_xor _ _ (by omega) (by omega), show (x : Int) / 8 = ((x / 8 : Nat) : Int) from by omega, i64_xor _ _ (by omega) (by omega)]; rfl
theorem sg1_eq (x : Nat) (h : x < 4294967296) : bits .xor .i64 (bits .xor .i64 ((rr 17 x : Nat) : Int) ((rr 19 x : Nat) : Int)) ((x : Int) / 1024) = ((sg1 x : Nat) : Int) := by
  have h1 := rr_lt 17 x
  have h2 := rr_lt 19 x
  have h3 := xor32 h1 h2
  rw [i64_xor _ _ (by omega) (by omega), show (x : Int) / 1024 = ((x / 1024 : Nat) : Int) from by omega, i64_xor _ _ (by omega) (by omega)]; rfl
theorem getD_str (s : ByteArray) (j : Nat) (h : j < s.size) : s.data.toList.getD j 0 = s[j] := by
  have h' : j < s.data.toList.length := by rw [Array.length_toList]; exact h
  rw [List.getD_eq_getElem?_getD, List.getElem?_eq_getElem h']
  simp; rfl
theorem four_str (s : ByteArray) (k : Nat) (h0 : 4 * k < s.size) (h1 : 4 * k + 1 < s.size) (h2 : 4 * k + 2 < s.size) (h3 : 4 * k + 3 < s.size) :
    four s.data.toList k = s[4 * k].toNat * 16777216 + s[4 * k + 1].toNat * 65536 + s[4 * k + 2].toNat * 256 + s[4 * k + 3].toNat := by
  unfold four
  rw [getD_str s _ h0, getD_str s _ h1, getD_str s _ h2, getD_str s _ h3]
theorem iv_one (l : List Nat) : ∀ u ∈ l.map iv, u.oneCell' = true := by
  intro u hu
  obtain ⟨x, _, rfl⟩ := List.mem_map.1 hu
  rfl
theorem row_form {w : World} {B : Nat} {t : TypeId} {v : Value} {n : Nat} {xs : List Value} (h : w.ownsRow B t 1 v (n + 1) xs) : ∃ g cap, v = .slice (some ⟨g, 0, none⟩) (n + 1) cap := by
  rcases h.2 with ⟨_, h0⟩ | ⟨g, cap, cur, h', _⟩
  · omega
  · exact ⟨g, cap, h'⟩
/-- What a round reads: eight words of a row. -/
def Eight (W : World) (g a b c d e f h k : Nat) : Prop :=
  W.cell? ⟨g, 0, none⟩ = some (.int .i64 (a : Int)) ∧ W.cell? ⟨g, 1, none⟩ = some (.int .i64 (b : Int)) ∧ W.cell? ⟨g, 2, none⟩ = some (.int .i64 (c : Int)) ∧ W.cell? ⟨g, 3, none⟩ = some (.int .i64 (d : Int)) ∧
  W.cell? ⟨g, 4, none⟩ = some (.int .i64 (e : Int)) ∧ W.cell? ⟨g, 5, none⟩ = some (.int .i64 (f : Int)) ∧ W.cell? ⟨g, 6, none⟩ = some (.int .i64 (h : Int)) ∧ W.cell? ⟨g, 7, none⟩ = some (.int .i64 (k : Int))
theorem eight_own {W : World} {B g cap a b c d e f h k : Nat} (ho : W.ownsRow B 3 1 (.slice (some ⟨g, 0, none⟩) 8 cap) 8 ((V8.mk a b c d e f h k).l.map iv)) : Eight W g a b c d e f h k :=
  ⟨ho.cellAt 0 (by decide), ho.cellAt 1 (by decide), ho.cellAt 2 (by decide), ho.cellAt 3 (by decide), ho.cellAt 4 (by decide), ho.cellAt 5 (by decide), ho.cellAt 6 (by decide), ho.cellAt 7 (by decide)⟩
theorem row_read {W : World} {B g n cap : Nat} {l : List Nat} (ho : W.ownsRow B 3 1 (.slice (some ⟨g, 0, none⟩) n cap) n (l.map iv)) (hb : ∀ x ∈ l, x < 4294967296) (j : Nat) (hj : j < n) :
    ∃ x : Nat, x < 4294967296 ∧ W.cell? ⟨g, j, none⟩ = some (.int .i64 (x : Int)) ∧ Hid (l[j]? = some x) := by
  have hl : l.length = n := by have := ho.1; simpa using this
  refine ⟨l[j]'(by omega), hb _ (List.getElem_mem _), ?_, List.getElem?_eq_getElem _⟩
  rw [ho.cellAt j (by omega)]
  simp [hl, hj]; rfl
theorem sm1_eq (e : Nat) : bits .xor .i64 (bits .xor .i64 ((rr 6 e : Nat) : Int) ((rr 11 e : Nat) : Int)) ((rr 25 e : Nat) : Int) = ((sm1 e : Nat) : Int) := by
  have h1 := rr_lt 6 e
  have h2 := rr_lt 11 e
  have h3 := rr_lt 25 e
  have h4 := xor32 h1 h2
  rw [i64_xor _ _ (by omega) (by omega), i64_xor _ _ (by omega) (by omega)]; rfl
theorem sm0_eq (e : Nat) : bits .xor .i64 (bits .xor .i64 ((rr 2 e : Nat) : Int) ((rr 13 e : Nat) : Int)) ((rr 22 e : Nat) : Int) = ((sm0 e : Nat) : Int) := by
  have h1 := rr_lt 2 e
  have h2 := rr_lt 13 e
  have h3 := rr_lt 22 e
  have h4 := xor32 h1 h2
  rw [i64_xor _ _ (by omega) (by omega), i64_xor _ _ (by omega) (by omega)]; rfl
theorem chs_eq (e n f g : Nat) (hn : n = 4294967295 - e) (he : e < 4294967296) (hf : f < 4294967296) (hg : g < 4294967296) : bits .xor .i64 (bits .and .i64 (e : Int) (f : Int)) (bits .and .i64 (n : Int) (g : Int)) = ((chs e f g : Nat) : Int) := by
  have h7 : e &&& f < 4294967296 := and32 hf
  have h8 : n &&& g < 4294967296 := and32 hg
  rw [i64_and _ _ (by omega) (by omega), i64_and _ _ (by omega) (by omega), i64_xor _ _ (by omega) (by omega), hn]; rfl
theorem maj_eq (a b c : Nat) (ha : a < 4294967296) (hb : b < 4294967296) (hc : c < 4294967296) : bits .xor .i64 (bits .xor .i64 (bits .and .i64 (a : Int) (b : Int)) (bits .and .i64 (a : Int) (c : Int))) (bits .and .i64 (b : Int) (c : Int)) = ((maj a b c : Nat) : Int) := by
  have h7 : a &&& b < 4294967296 := and32 hb
  have h8 : a &&& c < 4294967296 := and32 hc
  have h9 : b &&& c < 4294967296 := and32 hc
  have h10 := xor32 h7 h8
  rw [i64_and _ _ (by omega) (by omega), i64_and _ _ (by omega) (by omega), i64_and _ _ (by omega) (by omega), i64_xor _ _ (by omega) (by omega), i64_xor _ _ (by omega) (by omega)]; rfl
theorem sum5 (h A C k w t : Nat) (hh : h < 4294967296) (hA : A < 4294967296) (hC : C < 4294967296) (hk : k < 4294967296) (hw : w < 4294967296) (ht : t = h + A + C + k + w) : wrap64 (wrap64 (wrap64 (wrap64 ((h : Int) + (A : Int)) + (C : Int)) + (k : Int)) + (w : Int)) = (t : Int) := by
  unfold wrap64; omega
theorem sum2 (A C t : Nat) (hA : A < 4294967296) (hC : C < 4294967296) (ht : t = A + C) : wrap64 ((A : Int) + (C : Int)) = (t : Int) := by
  unfold wrap64; omega
theorem eight_alloc {W : World} {gv a b c d e f g h : Nat} (E : Eight W gv a b c d e f g h) (hg : gv < W.heap.size) (o : Obj) : Eight (W.alloc o) gv a b c d e f g h := by
  have B : Below W.heap.size W (W.alloc o) := (Below.refl _ _).alloc (Nat.le_refl _) o
  obtain ⟨c0, c1, c2, c3, c4, c5, c6, c7⟩ := E
  exact ⟨(B.cell (p := ⟨gv, 0, none⟩) hg).trans c0, (B.cell (p := ⟨gv, 1, none⟩) hg).trans c1, (B.cell (p := ⟨gv, 2, none⟩) hg).trans c2, (B.cell (p := ⟨gv, 3, none⟩) hg).trans c3, (B.cell (p := ⟨gv, 4, none⟩) hg).trans c4, (B.cell (p := ⟨gv, 5, none⟩) hg).trans c5, (B.cell (p := ⟨gv, 6, none⟩) hg).trans c6, (B.cell (p := ⟨gv, 7, none⟩) hg).trans c7⟩
theorem zip_snoc (ks sc : List Nat) (n kk ww : Nat) (hk : ks[n]? = some kk) (hw : sc[n]? = some ww) : (ks.zip sc).take (n + 1) = (ks.zip sc).take n ++ [(kk, ww)] := by
  have h : (ks.zip sc)[n]? = some (kk, ww) := List.getElem?_zip_eq_some.2 ⟨hk, hw⟩
  rw [List.take_add_one, h]; rfl
theorem getD_at {l : List Nat} {n x : Nat} (hn : n < l.length) (h : l.getD n 0 = x) : l[n]? = some x := by
  rw [List.getElem?_eq_getElem hn, ← h, List.getD_eq_getElem?_getD, List.getElem?_eq_getElem hn]; rfl
theorem rnd_mk {a b c d e f g z kk ww t u y1 y2 : Nat} (ht : t = tt ⟨a, b, c, d, e, f, g, z⟩ kk ww) (hu : u = uu ⟨a, b, c, d, e, f, g, z⟩) (h1 : y1 = t + u) (h2 : y2 = d + t) :
    V8.mk (y1 % 4294967296) a b c (y2 % 4294967296) e f g = rnd ⟨a, b, c, d, e, f, g, z⟩ kk ww := by
  rw [h1, h2, ht, hu]; rfl
theorem own_eight {W : World} {B a b c d e f g z : Nat} (h : B ≤ W.heap.size) :
    (W.alloc (.cells #[.int .i64 (a : Int), .int .i64 (b : Int), .int .i64 (c : Int), .int .i64 (d : Int), .int .i64 (e : Int), .int .i64 (f : Int), .int .i64 (g : Int), .int .i64 (z : Int)] 3)).drew.ownsRow B 3 1 (.slice (some ⟨W.heap.size, 0, none⟩) 8 8) 8 ((V8.mk a b c d e f g z).l.map iv) :=
  (World.ownsRow_lit (e := 3) (size := 1) W _ 8 h (by decide) rfl).drew
theorem two_grown {W W' : World} {row : Option Nat} (hg : W.grownBy W' row) {p q : Addr} {x y : Value} (hp : p.block < W.heap.size) (hq : q.block < W.heap.size) (np : some p.block ≠ row) (nq : some q.block ≠ row) (h : W.cell? p = some x ∧ W.cell? q = some y) :
    W'.cell? p = some x ∧ W'.cell? q = some y :=
  ⟨(World.cell?_of_block (w := W) (hg.block p.block hp np)).trans h.1, (World.cell?_of_block (w := W) (hg.block q.block hq nq)).trans h.2⟩
theorem two_alloc {W : World} {p q : Addr} {x y : Value} (hp : p.block < W.heap.size) (hq : q.block < W.heap.size) (o : Obj) (h : W.cell? p = some x ∧ W.cell? q = some y) :
    (W.alloc o).drew.cell? p = some x ∧ (W.alloc o).drew.cell? q = some y := by
  have B : Below W.heap.size W (W.alloc o) := (Below.refl _ _).alloc (Nat.le_refl _) o
  exact ⟨(B.cell hp).trans h.1, (B.cell hq).trans h.2⟩
theorem one_word (W : World) (x : Nat) : ∀ j u, ([x].map iv)[j]? = some u → (W.alloc (.cells #[.int .i64 (x : Int)] 3)).cell? ((⟨W.heap.size, 0, none⟩ : Addr).add j) = some u := by
  intro j u hj
  rw [add_at, cell_of_row _ _ j #[.int .i64 (x : Int)] 3 (0, 0) (heap_alloc_new W _)]
  simpa [iv] using hj
def addw (x y : Nat) : Nat := (x + y) % 4294967296
theorem blk_l (v V : V8) (s : List UInt8) (h : V = rnds v (keys.zip (sched (words s 16) 48))) : (blk v s).l = List.zipWith addw v.l V.l := by
  unfold blk
  rw [← h]
  rfl
theorem zip_at {l k : List Nat} {n x y : Nat} (hx : l[n]? = some x) (hy : k[n]? = some y) : (List.zipWith addw l k)[n]? = some (addw x y) := by
  rw [List.getElem?_zipWith, hx, hy]
theorem own_word {W : World} {B n x : Nat} {o : Value} {l : List Nat} (h : W.ownsRow B 3 1 o (n + 1) ((l.take n).map iv ++ [x].map iv)) (hx : l[n]? = some x) : W.ownsRow B 3 1 o (n + 1) ((l.take (n + 1)).map iv) := by
  rw [List.take_add_one, hx, List.map_append]; exact h
theorem lt_all {V : V8} (h : V.lt) : ∀ x ∈ V.l, x < 4294967296 := by
  obtain ⟨h1, h2, h3, h4, h5, h6, h7, h8⟩ := h
  intro x hx
  simp only [V8.l, List.mem_cons, List.not_mem_nil, or_false] at hx
  omega
theorem two_grown' {W W' : World} {row : Option Nat} {o : Obj} {ga gb n : Nat} {x y : Value} (hg : (W.alloc o).drew.grownBy W' row) (ha : ga < W.heap.size) (hb : gb < W.heap.size) (na : some ga ≠ row) (nb : some gb ≠ row) (h : W.cell? ⟨ga, n, none⟩ = some x ∧ W.cell? ⟨gb, n, none⟩ = some y) :
    W'.cell? ⟨ga, n, none⟩ = some x ∧ W'.cell? ⟨gb, n, none⟩ = some y := by
  have hs : (W.alloc o).drew.heap.size = W.heap.size + 1 := by simp
  exact two_grown hg (p := ⟨ga, n, none⟩) (q := ⟨gb, n, none⟩) (show ga < _ by omega) (show gb < _ by omega) na nb (two_alloc (p := ⟨ga, n, none⟩) (q := ⟨gb, n, none⟩) ha hb o h)
set_option maxHeartbeats 8000000 in
set_option maxRecDepth 100000 in
theorem spec_block (gh ch gk ck B : Nat) (v : V8) (s : ByteArray) (w : World) (hs : s.size = 64) (hv : v.lt)
    (hh : w.ownsRow B 3 1 (.slice (some ⟨gh, 0, none⟩) 8 ch) 8 (v.l.map iv)) (hk : w.ownsRow B 3 1 (.slice (some ⟨gk, 0, none⟩) 64 ck) 64 (keys.map iv)) :
    Calls Try.prog 65 #[.slice (some ⟨gh, 0, none⟩) 8 ch, .string s, .slice (some ⟨gk, 0, none⟩) 64 ck] w fun e w' =>
      ∃ g c, e = .returned (.slice (some ⟨g, 0, none⟩) 8 c) ∧ w'.ownsRow w.heap.size 3 1 (.slice (some ⟨g, 0, none⟩) 8 c) 8 ((blk v s.data.toList).l.map iv) ∧ Below w.heap.size w w' := by
  obtain ⟨i0, hi, hz0, hz1, hz2⟩ := info3f
  have HH : Hid (w.ownsRow B 3 1 (.slice (some ⟨gh, 0, none⟩) 8 ch) 8 (v.l.map iv)) := hh
  have HK : Hid (w.ownsRow B 3 1 (.slice (some ⟨gk, 0, none⟩) 64 ck) 64 (keys.map iv)) := hk
  have HV : Hid v.lt := hv
  have HS : Hid (s.size = 64) := hs
  clear hh hk hv hs
  go_enter Try.func65, Try.ntmps65
  go_wp2_with (first | go_in | (at_make; refine wpList_make_full _ rfl _ _ 83 rfl w.heap.size 3 i0 (.int .i64 0) 1 Try.underlying83 hi hz0 hz1 _ _ _ _ 64 rfl rfl rfl rfl (by rw [hz2]; omega) (by unfold maxLen; omega) (Nat.le_refl _) ?_; intro w1 hown hgr))
  have HR : Hid (Wd w1 w.heap.size []) := by rw [made_zero64] at hown; exact hown
  have hb1 : Below w.heap.size w w1 := (Below.refl _ _).grown hgr (Nat.le_refl _) (fun k h => by cases h)
  clear hown hgr
  go_loopw [8] (fun i wr => ∃ k : Nat, k ≤ 16 ∧ i = .int .i64 k ∧ Hid (Wd wr w.heap.size (words s.data.toList k)) ∧ Below w.heap.size w wr) (fun i _ => 16 - (intOf i).toNat)
  case atStart => exact ⟨0, by omega, rfl, HR, hb1⟩
  case round =>
    clear HR hb1 w1
    obtain ⟨k, hk, rfl, HR, hb⟩ := hrel
    by_cases hlt : k < 16
    · have hc : wr.cell? ⟨w.heap.size, k, none⟩ = some (iv 0) := by
        rw [HR.out.cellAt k (by omega)]
        have := part_behind (words s.data.toList k) (by rw [length_words]; omega)
        rw [length_words] at this; exact this
      have hf : wr.frozen? ⟨w.heap.size, k, none⟩ = false := HR.out.frozenAt k
      have h0 : (4 * (k : Int)) < (s.size : Int) := by have := HS.out; omega
      have h1 : (4 * (k : Int) + 1) < (s.size : Int) := by have := HS.out; omega
      have h2 : (4 * (k : Int) + 2) < (s.size : Int) := by have := HS.out; omega
      have h3 : (4 * (k : Int) + 3) < (s.size : Int) := by have := HS.out; omega
      have n0 : 0 ≤ 4 * (k : Int) := by omega
      have n1 : 0 ≤ 4 * (k : Int) + 1 := by omega
      have n2 : 0 ≤ 4 * (k : Int) + 2 := by omega
      have n3 : 0 ≤ 4 * (k : Int) + 3 := by omega
      go_wp2
      go_region
      go_wp2
      go_roundw
      case rel =>
        refine ⟨k + 1, by omega, by go_num, ?_, (hb.setCell (Nat.le_refl _) _).drew⟩
        rw [or_four, words_succ, four_str s k (by omega) (by omega) (by omega) (by omega)]
        exact (HR.out.put _ (by rw [length_words]; omega) k (length_words _ _)).drew
      case measure => simp [intOf]; omega
    · obtain rfl : k = 16 := by omega
      clear hk hlt
      obtain ⟨m, hm⟩ : ∃ m, m = words s.data.toList 16 := ⟨_, rfl⟩
      have HM : Hid (m = words s.data.toList 16) := hm
      have hml : m.length = 16 := by rw [hm, length_words]
      have hmb : ∀ x ∈ m, x < 4294967296 := by
        intro x hx
        rw [hm] at hx
        obtain ⟨j, _, rfl⟩ := List.mem_map.1 hx
        exact four_lt _ _
      rw [← hm] at HR
      have HML : Hid (m.length = 16) := hml
      have HMB : Hid (∀ x ∈ m, x < 4294967296) := hmb
      clear hm hml hmb
      go_wp2
      go_loopw [9] (fun i wr => ∃ n : Nat, 16 ≤ n ∧ n ≤ 64 ∧ i = .int .i64 n ∧ Hid (Wd wr w.heap.size (sched m (n - 16))) ∧ Below w.heap.size w wr) (fun i _ => 64 - (intOf i).toNat)
      case atStart => exact ⟨16, by omega, by omega, rfl, HR, hb⟩
      case round =>
        clear HR hb
        obtain ⟨n, hn, hn', rfl, HR, hb⟩ := hrel
        by_cases hlt : n < 64
        · have hln : (sched m (n - 16)).length = n := by rw [length_sched, HML.out]; omega
          have hall := sched_lt m HMB.out (n - 16)
          obtain ⟨p0, hp0⟩ : ∃ p, p = n - 16 := ⟨_, rfl⟩
          obtain ⟨p1, hp1⟩ : ∃ p, p = n - 15 := ⟨_, rfl⟩
          obtain ⟨p9, hp9⟩ : ∃ p, p = n - 7 := ⟨_, rfl⟩
          obtain ⟨p14, hp14⟩ : ∃ p, p = n - 2 := ⟨_, rfl⟩
          obtain ⟨x0, hx0, c0, X0⟩ := HR.out.read hall p0 (by omega) (by omega)
          obtain ⟨x1, hx1, c1, X1⟩ := HR.out.read hall p1 (by omega) (by omega)
          obtain ⟨x9, hx9, c9, X9⟩ := HR.out.read hall p9 (by omega) (by omega)
          obtain ⟨x14, hx14, c14, X14⟩ := HR.out.read hall p14 (by omega) (by omega)
          have cs : wr.cell? ⟨w.heap.size, n, none⟩ = some (.int .i64 0) := by
            rw [HR.out.cellAt n (by omega)]
            have := part_behind (sched m (n - 16)) (by omega)
            rw [hln] at this; exact this
          have hf : wr.frozen? ⟨w.heap.size, n, none⟩ = false := HR.out.frozenAt _
          have e0 : IntKind.i64.wrap ((n : Int) - 16) = (p0 : Int) := by rw [IntKind.wrap_i64]; omega
          have e1 : IntKind.i64.wrap ((n : Int) - 15) = (p1 : Int) := by rw [IntKind.wrap_i64]; omega
          have e9 : IntKind.i64.wrap ((n : Int) - 7) = (p9 : Int) := by rw [IntKind.wrap_i64]; omega
          have e14 : IntKind.i64.wrap ((n : Int) - 2) = (p14 : Int) := by rw [IntKind.wrap_i64]; omega
          have b0 : (p0 : Int) < 64 := by omega
          have b1 : (p1 : Int) < 64 := by omega
          have b9 : (p9 : Int) < 64 := by omega
          have b14 : (p14 : Int) < 64 := by omega
          have bn : (n : Int) < 64 := by omega
          have HLN : Hid (_ = _) := hln
          have HP0 : Hid (p0 = n - 16) := hp0
          have HP1 : Hid (p1 = n - 15) := hp1
          have HP9 : Hid (p9 = n - 7) := hp9
          have HP14 : Hid (p14 = n - 2) := hp14
          have q0 : p0 < n := by omega
          have q9 : p9 < n := by omega
          clear hln hall hp0 hp1 hp9 hp14
          have T : ∀ q : Nat, (wr.drewN q).cell? ⟨w.heap.size, p0, none⟩ = some (.int .i64 (x0 : Int)) ∧ (wr.drewN q).cell? ⟨w.heap.size, p9, none⟩ = some (.int .i64 (x9 : Int)) ∧ (wr.drewN q).cell? ⟨w.heap.size, p14, none⟩ = some (.int .i64 (x14 : Int)) ∧ (wr.drewN q).cell? ⟨w.heap.size, n, none⟩ = some (.int .i64 0) ∧ (wr.drewN q).frozen? ⟨w.heap.size, n, none⟩ = false ∧ Hid (Wd (wr.drewN q) w.heap.size (sched m (n - 16))) ∧ Below w.heap.size w (wr.drewN q) :=
            fun q => ⟨c0, c9, c14, cs, hf, HR, below_drewN hb q⟩
          have HT : Hid (∀ q : Nat, _) := T
          clear T c0 c9 c14 cs hf HR hb
          go_wp2
          go_quiet ((go_at_call 80; refine Calls.quiet_of_same (spec_righti x1 _ hx1 ?_ ?_ _) <;> decide))
          rw [sg0_eq x1 hx1]
          obtain ⟨A, hA, XA⟩ : ∃ A : Nat, A < 4294967296 ∧ Hid (sg0 x1 = A) := ⟨_, sg0_lt hx1, rfl⟩
          rw [XA.out]
          obtain ⟨c0, c9, c14, cs, hf, HR, hb⟩ := HT.out nq
          clear HT c1
          generalize wr.drewN nq = w2 at *
          have T : ∀ q : Nat, (w2.drewN q).cell? ⟨w.heap.size, p0, none⟩ = some (.int .i64 (x0 : Int)) ∧ (w2.drewN q).cell? ⟨w.heap.size, p9, none⟩ = some (.int .i64 (x9 : Int)) ∧ (w2.drewN q).cell? ⟨w.heap.size, n, none⟩ = some (.int .i64 0) ∧ (w2.drewN q).frozen? ⟨w.heap.size, n, none⟩ = false ∧ Hid (Wd (w2.drewN q) w.heap.size (sched m (n - 16))) ∧ Below w.heap.size w (w2.drewN q) :=
            fun q => ⟨c0, c9, cs, hf, HR, below_drewN hb q⟩
          have HT : Hid (∀ q : Nat, _) := T
          clear T c0 c9 cs hf HR hb
          go_wp2
          go_quiet ((go_at_call 80; refine Calls.quiet_of_same (spec_righti x14 _ hx14 ?_ ?_ _) <;> decide))
          rw [sg1_eq x14 hx14]
          obtain ⟨D, hD, XD⟩ : ∃ D : Nat, D < 4294967296 ∧ Hid (sg1 x14 = D) := ⟨_, sg1_lt hx14, rfl⟩
          rw [XD.out]
          obtain ⟨c0, c9, cs, hf, HR, hb⟩ := HT.out nq
          clear HT c14
          generalize w2.drewN nq = w3 at *
          obtain ⟨y1, hy1⟩ : ∃ y, y = x0 + A := ⟨_, rfl⟩
          obtain ⟨y2, hy2⟩ : ∃ y, y = y1 + x9 := ⟨_, rfl⟩
          obtain ⟨y3, hy3⟩ : ∃ y, y = y2 + D := ⟨_, rfl⟩
          have f1 : IntKind.i64.wrap ((x0 : Int) + (A : Int)) = (y1 : Int) := by rw [IntKind.wrap_i64]; omega
          have f2 : IntKind.i64.wrap ((y1 : Int) + (x9 : Int)) = (y2 : Int) := by rw [IntKind.wrap_i64]; omega
          have f3 : IntKind.i64.wrap ((y2 : Int) + (D : Int)) = (y3 : Int) := by rw [IntKind.wrap_i64]; omega
          have hy : y3 < 9223372036854775808 := by omega
          have HY : Hid (y3 = x0 + A + x9 + D) := by show _ = _; omega
          clear hy1 hy2 hy3
          go_wp2
          go_region_held3 (fun W : World => W.cell? ⟨w.heap.size, p0, none⟩ = some (.int .i64 (x0 : Int)) ∧ W.cell? ⟨w.heap.size, p9, none⟩ = some (.int .i64 (x9 : Int))) (first | exact ⟨keep_cell c0 q0, keep_cell c9 q9⟩ | exact ⟨c0, c9⟩) ((go_at_call 81; refine (spec_word y3 hy _).mono ?_; rintro e w' ⟨rfl, rfl⟩))
          have HW : Hid (((y3 : Int) % 4294967296) = ((wnext (sched m (n - 16)) : Nat) : Int)) := by
            have k0 := X0.out
            have k1 := X1.out
            have k9 := X9.out
            have k14 := X14.out
            rw [HP0.out] at k0
            rw [HP1.out] at k1
            rw [HP9.out] at k9
            rw [HP14.out] at k14
            show _ = _
            unfold wnext
            rw [HLN.out, k0, k1, k9, k14, XA.out, XD.out, ← HY.out]
            omega
          clear f1 f2 f3 e0 e1 e9 e14
          go_wp2
          go_roundw
          case rel =>
            have R : ∃ n' : Nat, 16 ≤ n' ∧ n' ≤ 64 ∧ Value.int .i64 ((n : Int) + 1) = .int .i64 n' ∧ Hid (Wd (w3.setCell ⟨w.heap.size, n, none⟩ (.int .i64 ((y3 : Int) % 4294967296))).drew w.heap.size (sched m (n' - 16))) ∧ Below w.heap.size w (w3.setCell ⟨w.heap.size, n, none⟩ (.int .i64 ((y3 : Int) % 4294967296))).drew := by
              refine ⟨n + 1, by omega, by omega, by go_num, ?_, (hb.setCell (p := ⟨w.heap.size, n, none⟩) (Nat.le_refl _) _).drew⟩
              rw [HW.out, show n + 1 - 16 = (n - 16) + 1 from by omega]
              exact (HR.out.put _ (by have := HLN.out; omega) n HLN.out).drew
            first | exact R | ((repeat apply Exists.intro); exact ⟨R, rfl⟩)
          case measure => simp [intOf]; omega
        · obtain rfl : n = 64 := by omega
          clear hn hn' hlt
          obtain ⟨sc, hsc⟩ : ∃ sc, sc = sched m 48 := ⟨_, rfl⟩
          have HSC : Hid (sc = sched m 48) := hsc
          have HSL : Hid (sc.length = 64) := by show _ = _; rw [hsc, length_sched, HML.out]
          have HSB : Hid (∀ x ∈ sc, x < 4294967296) := by rw [hsc]; exact sched_lt m HMB.out 48
          have HR' : Hid (Wd wr w.heap.size sc) := by rw [hsc]; exact HR
          clear HR hsc HML HMB
          have hsz : w.heap.size ≤ wr.heap.size := hb.size
          have hg : w.heap.size < wr.heap.size := HR'.out.lt _ rfl |>.2
          have hgh : gh < w.heap.size := (HH.out.lt _ rfl).2
          have HCH : Hid (∀ j u, (v.l.map iv)[j]? = some u → (wr.alloc (.cells #[] 3)).cell? ((⟨gh, 0, none⟩ : Addr).add j) = some u) := by
            intro j u hj
            have h1 := HH.out.cells rfl j u hj
            have hb' : Below w.heap.size w (wr.alloc (.cells #[] 3)) := hb.alloc hsz _
            exact (hb'.cell (p := (⟨gh, 0, none⟩ : Addr).add j) (by rw [add_at]; exact hgh)).trans h1
          have HE : Hid ((wr.alloc (.cells #[] 3)).ownsRow w.heap.size 3 1 (.slice (some ⟨wr.heap.size, 0, none⟩) 0 0) 0 []) := World.ownsRow_made wr #[] 0 hsz (by decide) rfl
          go_wp2_with (at_builtin; refine wpList_append_own _ rfl _ _ 83 rfl w.heap.size 3 i0 (.int .i64 0) 1 8 Try.underlying83 hi hz0 hz1 hz2 rfl (by decide) _ _ _ rfl HE.out ⟨gh, 0, none⟩ 8 ch (v.l.map iv) rfl rfl HCH.out (iv_one _) (by unfold maxLen; omega) (by omega) (by simp; omega) ?_)
          intro v' w1 hown' hgrow _
          obtain ⟨gv, cv, rfl⟩ := row_form hown'
          have hb1 : Below w.heap.size w w1 := (hb.alloc hsz _).grown hgrow (by simp; omega) (fun j hj => by cases hj; exact hsz)
          have HR1 : Hid (Wd w1 w.heap.size sc) := (HR'.out.alloc _).kept hgrow (.inr (fun e => by have e' : w.heap.size = wr.heap.size := Option.some.inj e; omega))
          have HO : Hid (w1.ownsRow w.heap.size 3 1 (.slice (some ⟨gv, 0, none⟩) 8 cv) 8 (v.l.map iv)) := hown'
          clear hown' hgrow HR' HE HCH hb hsz hg
          go_wp2
          go_loopw [12, 13] (fun vs i wr => ∃ (n gv cv a b c d e f g z : Nat), n ≤ 64 ∧ i = .int .i64 n ∧ vs = .slice (some ⟨gv, 0, none⟩) 8 cv ∧ Hid (V8.lt ⟨a, b, c, d, e, f, g, z⟩) ∧ Hid (wr.ownsRow w.heap.size 3 1 (.slice (some ⟨gv, 0, none⟩) 8 cv) 8 ((V8.mk a b c d e f g z).l.map iv)) ∧ Hid (V8.mk a b c d e f g z = rnds v ((keys.zip sc).take n)) ∧ Hid (Wd wr w.heap.size sc) ∧ Below w.heap.size w wr) (fun _ i _ => 64 - (intOf i).toNat)
          case atStart => exact ⟨0, gv, cv, v.a, v.b, v.c, v.d, v.e, v.f, v.g, v.h, by omega, rfl, rfl, HV, HO, rfl, HR1, hb1⟩
          case round =>
            clear HO HR1 hb1
            obtain ⟨n, gv', cv', a, b, c, d, e, f, g, z, hn, rfl, rfl, HL, HO, HG, HR, hb⟩ := hrel
            by_cases hlt : n < 64
            · obtain ⟨ha, hb_, hc, hd, he, hf, hg, hh⟩ := HL.out
              obtain ⟨c0, c1, c2, c3, c4, c5, c6, c7⟩ := eight_own HO.out
              have hgk : gk < w.heap.size := (HK.out.lt _ rfl).2
              obtain ⟨kk, hkk, ck0, XK⟩ := row_read HK.out keys_lt n hlt
              have ckk : wr.cell? ⟨gk, n, none⟩ = some (.int .i64 (kk : Int)) := (hb.cell (p := ⟨gk, n, none⟩) hgk).trans ck0
              obtain ⟨ww, hww, cww, XW⟩ := HR.out.read HSB.out n (by have := HSL.out; omega) (by have := HSL.out; omega)
              have bn : (n : Int) < 64 := by omega
              have T : ∀ q : Nat, Eight (wr.drewN q) gv' a b c d e f g z ∧ Hid ((wr.drewN q).ownsRow w.heap.size 3 1 (.slice (some ⟨gv', 0, none⟩) 8 cv') 8 ((V8.mk a b c d e f g z).l.map iv)) ∧ Hid (Wd (wr.drewN q) w.heap.size sc) ∧ Below w.heap.size w (wr.drewN q) :=
                fun q => ⟨⟨c0, c1, c2, c3, c4, c5, c6, c7⟩, HO, HR, below_drewN hb q⟩
              have HT : Hid (∀ q : Nat, _) := T
              clear T ck0 HO HR hb hgk
              go_wp2
              go_quiet (first | (go_at_call 80; refine Calls.quiet_of_same (spec_righti e _ he ?_ ?_ _) <;> decide) | (go_at_call 81; exact Calls.quiet_of_same (spec_wordn e he _)))
              have l1 := sm1_lt e
              have l2 := @chs_lt e f g hf hg
              obtain ⟨t, hT⟩ : ∃ t, t = z + sm1 e + chs e f g + kk + ww := ⟨_, rfl⟩
              rw [sm1_eq e, chs_eq e _ f g rfl he hf hg, sum5 z _ _ kk ww t hh l1 l2 hkk hww hT]
              have ht : t < 21474836480 := by omega
              have XT : Hid (t = tt ⟨a, b, c, d, e, f, g, z⟩ kk ww) := hT
              clear hT l1 l2
              obtain ⟨⟨c0, c1, c2, c3, c4, c5, c6, c7⟩, HO, HR, hb⟩ := HT.out nq
              clear HT ckk cww
              generalize wr.drewN nq = w2 at *
              have T : ∀ q : Nat, Eight (w2.drewN q) gv' a b c d e f g z ∧ Hid ((w2.drewN q).ownsRow w.heap.size 3 1 (.slice (some ⟨gv', 0, none⟩) 8 cv') 8 ((V8.mk a b c d e f g z).l.map iv)) ∧ Hid (Wd (w2.drewN q) w.heap.size sc) ∧ Below w.heap.size w (w2.drewN q) :=
                fun q => ⟨⟨c0, c1, c2, c3, c4, c5, c6, c7⟩, HO, HR, below_drewN hb q⟩
              have HT : Hid (∀ q : Nat, _) := T
              clear T HO HR hb
              go_wp2
              go_quiet ((go_at_call 80; refine Calls.quiet_of_same (spec_righti a _ ha ?_ ?_ _) <;> decide))
              have l1 := sm0_lt a
              have l2 := @maj_lt a b c hb_ hc
              obtain ⟨u, hU⟩ : ∃ u, u = sm0 a + maj a b c := ⟨_, rfl⟩
              rw [sm0_eq a, maj_eq a b c ha hb_ hc, sum2 _ _ u l1 l2 hU]
              have hu : u < 8589934592 := by omega
              have XU : Hid (u = uu ⟨a, b, c, d, e, f, g, z⟩) := hU
              clear hU l1 l2
              obtain ⟨⟨d0, d1, d2, d3, d4, d5, d6, d7⟩, HO, HR, hb⟩ := HT.out nq
              clear HT c0 c1 c2 c3 c4 c5 c6 c7
              generalize w2.drewN nq = w3 at *
              have hgv : gv' < w3.heap.size := (HO.out.lt _ rfl).2
              obtain ⟨y1, hy1⟩ : ∃ y, y = t + u := ⟨_, rfl⟩
              obtain ⟨y2, hy2⟩ : ∃ y, y = d + t := ⟨_, rfl⟩
              have f1 : IntKind.i64.wrap ((t : Int) + (u : Int)) = (y1 : Int) := by rw [IntKind.wrap_i64]; omega
              have f2 : IntKind.i64.wrap ((d : Int) + (t : Int)) = (y2 : Int) := by rw [IntKind.wrap_i64]; omega
              have hy1b : y1 < 9223372036854775808 := by omega
              have hy2b : y2 < 9223372036854775808 := by omega
              have HY1 : Hid (y1 = t + u) := hy1
              have HY2 : Hid (y2 = d + t) := hy2
              clear hy1 hy2
              have E8 : Eight w3 gv' a b c d e f g z := ⟨d0, d1, d2, d3, d4, d5, d6, d7⟩
              have HE8 : Hid (Eight w3 gv' a b c d e f g z) := E8
              clear E8
              go_wp2
              go_region_held3 (fun W : World => W.cell? ⟨gv', 0, none⟩ = some (.int .i64 (a : Int)) ∧ W.cell? ⟨gv', 1, none⟩ = some (.int .i64 (b : Int)) ∧ W.cell? ⟨gv', 2, none⟩ = some (.int .i64 (c : Int)) ∧ W.cell? ⟨gv', 3, none⟩ = some (.int .i64 (d : Int)) ∧ W.cell? ⟨gv', 4, none⟩ = some (.int .i64 (e : Int)) ∧ W.cell? ⟨gv', 5, none⟩ = some (.int .i64 (f : Int)) ∧ W.cell? ⟨gv', 6, none⟩ = some (.int .i64 (g : Int)) ∧ W.cell? ⟨gv', 7, none⟩ = some (.int .i64 (z : Int))) (first | exact HE8.out | exact eight_alloc HE8.out hgv _) ((go_at_call 81; first | (refine (spec_word y1 hy1b _).mono ?_; rintro e w' ⟨rfl, rfl⟩) | (refine (spec_word y2 hy2b _).mono ?_; rintro e w' ⟨rfl, rfl⟩)))
              have HN : Hid (V8.mk (y1 % 4294967296) a b c (y2 % 4294967296) e f g = rnds v ((keys.zip sc).take (n + 1))) := by
                show _ = _
                rw [zip_snoc keys sc n kk ww XK.out (getD_at (by have := HSL.out; omega) XW.out), rnds_snoc, ← HG.out]
                exact rnd_mk XT.out XU.out HY1.out HY2.out
              have HLN : Hid (V8.lt ⟨y1 % 4294967296, a, b, c, y2 % 4294967296, e, f, g⟩) := ⟨Nat.mod_lt _ (by decide), ha, hb_, hc, Nat.mod_lt _ (by decide), he, hf, hg⟩
              rw [show ((y1 : Int) % 4294967296) = ((y1 % 4294967296 : Nat) : Int) from by omega, show ((y2 : Int) % 4294967296) = ((y2 % 4294967296 : Nat) : Int) from by omega]
              generalize y1 % 4294967296 = z1 at *
              generalize y2 % 4294967296 = z2 at *
              have HO' : Hid (_) := own_eight (W := w3) (a := z1) (b := a) (c := b) (d := c) (e := z2) (f := e) (g := f) (z := g) hb.size
              have HR' : Hid (Wd (w3.alloc (.cells #[.int .i64 (z1 : Int), .int .i64 (a : Int), .int .i64 (b : Int), .int .i64 (c : Int), .int .i64 (z2 : Int), .int .i64 (e : Int), .int .i64 (f : Int), .int .i64 (g : Int)] 3)).drew w.heap.size sc) := (HR.out.alloc _).drew
              have hb' := (hb.alloc hb.size (.cells #[.int .i64 (z1 : Int), .int .i64 (a : Int), .int .i64 (b : Int), .int .i64 (c : Int), .int .i64 (z2 : Int), .int .i64 (e : Int), .int .i64 (f : Int), .int .i64 (g : Int)] 3)).drew
              go_wp2
              go_roundw
              case rel =>
                have R : ∃ (n' gv cv a' b' c' d' e' f' g' z' : Nat), n' ≤ 64 ∧ Value.int .i64 ((n : Int) + 1) = .int .i64 n' ∧ Value.slice (some ⟨w3.heap.size, 0, none⟩) 8 8 = .slice (some ⟨gv, 0, none⟩) 8 cv ∧ Hid (V8.lt ⟨a', b', c', d', e', f', g', z'⟩) ∧ Hid ((w3.alloc (.cells #[.int .i64 (z1 : Int), .int .i64 (a : Int), .int .i64 (b : Int), .int .i64 (c : Int), .int .i64 (z2 : Int), .int .i64 (e : Int), .int .i64 (f : Int), .int .i64 (g : Int)] 3)).drew.ownsRow w.heap.size 3 1 (.slice (some ⟨gv, 0, none⟩) 8 cv) 8 ((V8.mk a' b' c' d' e' f' g' z').l.map iv)) ∧ Hid (V8.mk a' b' c' d' e' f' g' z' = rnds v ((keys.zip sc).take n')) ∧ Hid (Wd (w3.alloc (.cells #[.int .i64 (z1 : Int), .int .i64 (a : Int), .int .i64 (b : Int), .int .i64 (c : Int), .int .i64 (z2 : Int), .int .i64 (e : Int), .int .i64 (f : Int), .int .i64 (g : Int)] 3)).drew w.heap.size sc) ∧ Below w.heap.size w (w3.alloc (.cells #[.int .i64 (z1 : Int), .int .i64 (a : Int), .int .i64 (b : Int), .int .i64 (c : Int), .int .i64 (z2 : Int), .int .i64 (e : Int), .int .i64 (f : Int), .int .i64 (g : Int)] 3)).drew :=
                  ⟨n + 1, w3.heap.size, 8, z1, a, b, c, z2, e, f, g, by omega, by go_num, rfl, HLN, HO', HN, HR', hb'⟩
                first | exact R | ((repeat apply Exists.intro); exact ⟨R, rfl⟩)
              case measure => simp [intOf]; omega
            · obtain rfl : n = 64 := by omega
              clear hn hlt
              have HGF : Hid (V8.mk a b c d e f g z = rnds v (keys.zip (sched (words s.data.toList 16) 48))) := by
                have h1 := HG.out
                rw [List.take_of_length_le (by rw [List.length_zip, HSL.out]; exact Nat.min_le_right _ _), HSC.out, HM.out] at h1
                exact h1
              obtain ⟨Rs, hRs⟩ : ∃ Rs, Rs = List.zipWith addw v.l (V8.mk a b c d e f g z).l := ⟨_, rfl⟩
              have HRS : Hid (Rs = List.zipWith addw v.l (V8.mk a b c d e f g z).l) := hRs
              have HBL : Hid ((blk v s.data.toList).l = Rs) := by show _ = _; rw [hRs]; exact blk_l v _ _ HGF.out
              clear hRs HG HGF HSC HSL HSB HR HM
              have hsz : w.heap.size ≤ wr.heap.size := hb.size
              have hgv : gv' < wr.heap.size := (HO.out.lt _ rfl).2
              have HE : Hid ((wr.alloc (.cells #[] 3)).ownsRow w.heap.size 3 1 (.slice (some ⟨wr.heap.size, 0, none⟩) 0 0) 0 ((Rs.take 0).map iv)) := World.ownsRow_made wr #[] 0 hsz (by decide) rfl
              have HO1 : Hid ((wr.alloc (.cells #[] 3)).ownsRow w.heap.size 3 1 (.slice (some ⟨gv', 0, none⟩) 8 cv') 8 ((V8.mk a b c d e f g z).l.map iv)) := HO.out.alloc _
              have hb1 : Below w.heap.size w (wr.alloc (.cells #[] 3)) := hb.alloc hsz _
              have hne : (wr.heap.size : Nat) ≠ gv' := by omega
              clear HO hb hsz
              go_wp2
              go_loopw [18, 19] (fun o_ i wr => ∃ (n : Nat) (o : Value), o_ = o ∧ n ≤ 8 ∧ i = .int .i64 n ∧ o.ownBlock ≠ some gv' ∧ Hid (wr.ownsRow w.heap.size 3 1 o n ((Rs.take n).map iv)) ∧ Hid (wr.ownsRow w.heap.size 3 1 (.slice (some ⟨gv', 0, none⟩) 8 cv') 8 ((V8.mk a b c d e f g z).l.map iv)) ∧ Below w.heap.size w wr) (fun _ i _ => 8 - (intOf i).toNat)
              case atStart => exact ⟨0, _, rfl, by omega, rfl, fun e => hne (Option.some.inj e), HE, HO1, hb1⟩
              case round =>
                clear HE HO1 hb1 hne hgv
                obtain ⟨n, o, rfl, hn, rfl, hne, HW, HO, hb⟩ := hrel
                by_cases hlt : n < 8
                · have hgh : gh < w.heap.size := (HH.out.lt _ rfl).2
                  obtain ⟨x, hx, cx0, XX⟩ := row_read HH.out (lt_all HV.out) n hlt
                  have cx : wr.cell? ⟨gh, n, none⟩ = some (.int .i64 (x : Int)) := (hb.cell (p := ⟨gh, n, none⟩) hgh).trans cx0
                  obtain ⟨y, hy, cy, XY⟩ := row_read HO.out (lt_all HL.out) n hlt
                  have bn : (n : Int) < 8 := by omega
                  obtain ⟨q, hq⟩ : ∃ q, q = x + y := ⟨_, rfl⟩
                  have f1 : IntKind.i64.wrap ((x : Int) + (y : Int)) = (q : Int) := by rw [IntKind.wrap_i64]; omega
                  have hqb : q < 9223372036854775808 := by omega
                  obtain ⟨p, hp⟩ : ∃ p, p = q % 4294967296 := ⟨_, rfl⟩
                  have f2 : ((q % 4294967296 : Nat) : Int) = (p : Int) := by rw [hp]
                  have HRN : Hid (Rs[n]? = some p) := by show _ = _; rw [HRS.out, zip_at XX.out XY.out, hp, hq]; rfl
                  have HF2 : Hid (((q % 4294967296 : Nat) : Int) = (p : Int)) := f2
                  have hsz : w.heap.size ≤ wr.heap.size := hb.size
                  have hgw : gh < wr.heap.size := by omega
                  have hgv : gv' < wr.heap.size := (HO.out.lt _ rfl).2
                  have H2 : Hid (wr.cell? ⟨gh, n, none⟩ = some (.int .i64 (x : Int)) ∧ wr.cell? ⟨gv', n, none⟩ = some (.int .i64 (y : Int))) := ⟨cx, cy⟩
                  have hnh : some gh ≠ _ := fun e => absurd hgh (Nat.not_lt.2 (HW.out.lt _ e.symm).1)
                  clear cx0 hq hp f2
                  go_wp2
                  go_region_held3 (fun W : World => W.cell? ⟨gh, n, none⟩ = some (.int .i64 (x : Int)) ∧ W.cell? ⟨gv', n, none⟩ = some (.int .i64 (y : Int))) (first | exact H2.out | exact two_alloc hgw hgv _ H2.out | exact two_grown' hgrow hgw hgv hnh (fun e => hne e.symm) H2.out) (first | (refine step_append_lies _ rfl _ _ 83 rfl w.heap.size 3 i0 (.int .i64 0) 1 8 Try.underlying83 hi hz0 hz1 hz2 rfl (by decide) _ n _ (by rfl) (HW.out.alloc _).drew ⟨wr.heap.size, 0, none⟩ 1 1 ([p].map iv) (by rfl) rfl (one_word wr p) (iv_one _) (by decide) (by unfold maxLen; omega) (by omega) (by simp; omega) (wr.heap.size + 1) (by simp) ?_; intro gn capn w1 hown' hgrow hat hlt') | (go_at_call 81; refine (spec_word q hqb _).mono ?_; rintro e w' ⟨rfl, rfl⟩; rw [HF2.out]))
                  all_goals
                    have HW1 : Hid (w1.ownsRow w.heap.size 3 1 (.slice (some ⟨gn, 0, none⟩) (n + 1) capn) (n + 1) ((Rs.take (n + 1)).map iv)) := own_word hown' HRN.out
                    have HO1 : Hid (w1.ownsRow w.heap.size 3 1 (.slice (some ⟨gv', 0, none⟩) 8 cv') 8 ((V8.mk a b c d e f g z).l.map iv)) := (HO.out.alloc _).drew.kept hgrow (.inr (fun e => hne e.symm))
                    have hb1 : Below w.heap.size w w1 := (hb.alloc hsz _).drew.grown hgrow (by simp; omega) (fun j hj => (HW.out.lt j hj).1)
                    have hne1 : gn ≠ gv' := by
                      rcases hat with hat | hat
                      · intro e; subst e; exact hne hat
                      · omega
                    clear hown' hgrow hat hlt' f1
                    go_wp2
                    go_roundw
                    case rel =>
                      have R : ∃ (n' : Nat) (o : Value), Value.slice (some ⟨gn, 0, none⟩) (n + 1) capn = o ∧ n' ≤ 8 ∧ Value.int .i64 ((n : Int) + 1) = .int .i64 n' ∧ o.ownBlock ≠ some gv' ∧ Hid (w1.ownsRow w.heap.size 3 1 o n' ((Rs.take n').map iv)) ∧ Hid (w1.ownsRow w.heap.size 3 1 (.slice (some ⟨gv', 0, none⟩) 8 cv') 8 ((V8.mk a b c d e f g z).l.map iv)) ∧ Below w.heap.size w w1 :=
                        ⟨n + 1, _, rfl, by omega, by go_num, fun e => hne1 (Option.some.inj e), HW1, HO1, hb1⟩
                      first | exact R | ((repeat apply Exists.intro); exact ⟨R, rfl⟩)
                    case measure => simp [intOf]; omega
                · obtain rfl : n = 8 := by omega
                  obtain ⟨gn, capn, rfl⟩ := row_form HW.out
                  have HF : Hid (wr.ownsRow w.heap.size 3 1 (.slice (some ⟨gn, 0, none⟩) 8 capn) 8 ((blk v s.data.toList).l.map iv)) := by
                    rw [HBL.out]
                    have h1 := HW.out
                    rw [List.take_of_length_le (by rw [HRS.out, List.length_zipWith]; exact Nat.le_refl _)] at h1
                    exact h1
                  clear HW
                  go_wp2
                  go_ret
                  exact ⟨gn, capn, rfl, HF, hb⟩
end Go.Proofs.Ytmjlpdmdpagggaa
