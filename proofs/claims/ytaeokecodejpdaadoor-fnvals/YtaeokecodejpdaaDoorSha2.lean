/- What spec.l3Block answers: the eight words behind a block of 64 bytes; old memory stays. -/
import Derived.Test.YtaeokecodejpdaaDoorSha1
import Derived.Test.YtaeokecodejpdaaDoorLaw
import Derived.Deep.RegionLaw
import Derived.Deep.RegionHeld3
import Derived.Deep.AppendLies
import Derived.Laws.OwnMore
import Derived.Laws.DeepNot64
import Derived.Deep.QuietTactic
import Derived.BigQuiet
namespace Go.Proofs.YtaeokecodejpdaaDoor
open Go.RowKit
open Num
set_option linter.unusedVariables false
theorem info3f : ∃ i, Tryd.prog.info? 3 = some i ∧ i.zero = some (.int .i64 0) ∧ i.size = 1 ∧ i.bytes = 8 :=
  info_parts (by kernel_rfl)
/-- The first n words of a row of 64, nothing behind. -/
def part (l : List Nat) : List Value := l.map iv ++ List.replicate (64 - l.length) (iv 0)
theorem part_set (l : List Nat) (x : Nat) (h : l.length < 64) : (part l).set l.length (iv x) = part (l ++ [x]) := by
  unfold part
  rw [List.set_append_right _ _ (by simp)]
  obtain ⟨m, hm⟩ : ∃ m, 64 - l.length = m + 1 := ⟨64 - l.length - 1, by omega⟩
  have hm' : 64 - (l ++ [x]).length = m := by simp; omega
  rw [hm, hm']
  simp [List.replicate_succ]
theorem part_at (l : List Nat) (j : Nat) (h : j < l.length) : (part l)[j]? = some (iv (l.getD j 0)) := by
  unfold part
  rw [List.getElem?_append_left (by simpa using h)]
  simp [h]
theorem part_behind (l : List Nat) (h : l.length < 64) : (part l)[l.length]? = some (iv 0) := by
  unfold part
  rw [List.getElem?_append_right (by simp)]
  simp only [List.length_map, Nat.sub_self]
  obtain ⟨m, hm⟩ : ∃ m, 64 - l.length = m + 1 := ⟨64 - l.length - 1, by omega⟩
  rw [hm]; rfl
theorem made_zero64 : (madeCells (Value.int IntKind.i64 0).cells (64 * 1)).toList = part [] := by
  have : (Value.int IntKind.i64 0).cells = #[.int .i64 0] := rfl
  rw [this, toList_madeCells_one]; rfl
theorem words_succ (l : List UInt8) (n : Nat) : words l (n + 1) = words l n ++ [four l n] := by
  unfold words; rw [List.range_succ, List.map_append]; rfl
theorem length_words (l : List UInt8) (n : Nat) : (words l n).length = n := by simp [words]
abbrev Wd (w : World) (g : Nat) (l : List Nat) : Prop := w.ownsRow g 3 1 (.slice (some ⟨g, 0, none⟩) 64 64) 64 (part l)
theorem Wd.put {w : World} {g : Nat} {l : List Nat} (h : Wd w g l) (x : Nat) (hl : l.length < 64) (n : Nat) (hn : l.length = n) : Wd (w.setCell ⟨g, n, none⟩ (iv x)) g (l ++ [x]) := by
  subst hn
  have := (h.stored l.length (iv x)).1
  rw [part_set l x hl] at this
  exact this
theorem Wd.read {w : World} {g : Nat} {l : List Nat} (h : Wd w g l) (hb : ∀ x ∈ l, x < 4294967296) (j : Nat) (hj : j < l.length) (hl : l.length ≤ 64) :
    ∃ x : Nat, x < 4294967296 ∧ w.cell? ⟨g, j, none⟩ = some (.int .i64 (x : Int)) ∧ Hid (l.getD j 0 = x) := by
  refine ⟨l.getD j 0, ?_, ?_, rfl⟩
  · rw [List.getD_eq_getElem?_getD, List.getElem?_eq_getElem hj]
    exact hb _ (List.getElem_mem hj)
  · rw [h.cellAt j (by omega), part_at l j hj]; rfl
theorem wrap_small (x : Nat) (h : x < 9223372036854775808) : wrap64 (x : Int) = (x : Int) := by unfold wrap64; omega
theorem or_four (a b c d : UInt8) :
    bits .or .i64 (bits .or .i64 (bits .or .i64 (wrap64 (wrap64 (a.toNat : Int) * 16777216)) (wrap64 (wrap64 (b.toNat : Int) * 65536))) (wrap64 (wrap64 (c.toNat : Int) * 256))) (wrap64 (d.toNat : Int)) = ((a.toNat * 16777216 + b.toNat * 65536 + c.toNat * 256 + d.toNat : Nat) : Int) := by
  have ha := a.toNat_lt
  have hb := b.toNat_lt
  have hc := c.toNat_lt
  have hd := d.toNat_lt
  generalize a.toNat = A at *
  generalize b.toNat = B at *
  generalize c.toNat = C at *
  generalize d.toNat = D at *
  rw [wrap_small A (by omega), wrap_small B (by omega), wrap_small C (by omega), wrap_small D (by omega)]
  rw [show (A : Int) * 16777216 = ((2 ^ 24 * A : Nat) : Int) from by omega, show (B : Int) * 65536 = ((B * 65536 : Nat) : Int) from by omega, show (C : Int) * 256 = ((C * 256 : Nat) : Int) from by omega]
  rw [wrap_small _ (by omega), wrap_small _ (by omega), wrap_small _ (by omega)]
  rw [i64_or _ _ (by omega) (by omega), ← Nat.two_pow_add_eq_or_of_lt (show B * 65536 < 2 ^ 24 from by omega)]
  rw [show 2 ^ 24 * A + B * 65536 = 2 ^ 16 * (256 * A + B) from by omega]
  rw [i64_or _ _ (by omega) (by omega), ← Nat.two_pow_add_eq_or_of_lt (show C * 256 < 2 ^ 16 from by omega)]
  rw [show 2 ^ 16 * (256 * A + B) + C * 256 = 2 ^ 8 * (65536 * A + 256 * B + C) from by omega]
  rw [i64_or _ _ (by omega) (by omega), ← Nat.two_pow_add_eq_or_of_lt (show D < 2 ^ 8 from by omega)]
  congr 1
  omega
theorem keep_cell {w : World} {g n p : Nat} {u v : Value} (h : w.cell? ⟨g, p, none⟩ = some u) (hp : p < n) : (w.setCell ⟨g, n, none⟩ v).drew.cell? ⟨g, p, none⟩ = some u :=
  (World.cell?_setCell_other w ⟨g, n, none⟩ ⟨g, p, none⟩ v (fun e => by injection e; omega)).trans h
theorem sg0_eq (x : Nat) (h : x < 4294967296) : bits .xor .i64 (bits .xor .i64 ((rr 7 x : Nat) : Int) ((rr 18 x : Nat) : Int)) ((x : Int) / 8) = ((sg0 x : Nat) : Int) := by
  have h1 := rr_lt 7 x
  have h2 := rr_lt 18 x
  have h3 := xor32 h1 h2
  rw [i64_xor _ _ (by omega) (by omega), show (x : Int) / 8 = ((x / 8 : Nat) : Int) from by omega, i64_xor _ _ (by omega) (by omega)]; rfl
theorem sg1_eq (x : Nat) (h : x < 4294967296) : bits .xor .i64 (bits .xor .i64 ((rr 17 x : Nat) : Int) ((rr 19 x : Nat) : Int)) ((x : Int) / 1024) = ((sg1 x : Nat) : Int) := by
  have h1 := rr_lt 17 x
  have h2 := rr_lt 19 x
  have h3 := xor32 h1 h2
  rw [i64_xor _ _ (by omega) (by omega), show (x : Int) / 1024 = ((x / 1024 : Nat) : Int) from by omega, i64_xor _ _ (by omega) (by omega)]; rfl
theorem getD_str (s : ByteArray) (j : Nat) (h : j < s.size) : s.data.toList.getD j 0 = s[j] := by
  have h' : j < s.data.toList.length := by rw [Array.length_toList]; exact h
  rw [List.getD_eq_getElem?_getD, List.getElem?_eq_getElem h']
  simp; rfl
theorem four_str (s : ByteArray) (k : Nat) (h0 : 4 * k < s.size) (h1 : 4 * k + 1 < s.size) (h2 : 4 * k + 2 < s.size) (h3 : 4 * k + 3 < s.size) :
    four s.data.toList k = s[4 * k].toNat * 16777216 + s[4 * k + 1].toNat * 65536 + s[4 * k + 2].toNat * 256 + s[4 * k + 3].toNat := by
  unfold four
  rw [getD_str s _ h0, getD_str s _ h1, getD_str s _ h2, getD_str s _ h3]
theorem iv_one (l : List Nat) : ∀ u ∈ l.map iv, u.oneCell' = true := by
  intro u hu
  obtain ⟨x, _, rfl⟩ := List.mem_map.1 hu
  rfl
theorem row_form {w : World} {B : Nat} {t : TypeId} {v : Value} {n : Nat} {xs : List Value} (h : w.ownsRow B t 1 v (n + 1) xs) : ∃ g cap, v = .slice (some ⟨g, 0, none⟩) (n + 1) cap := by
  rcases h.2 with ⟨_, h0⟩ | ⟨g, cap, cur, h', _⟩
  · omega
  · exact ⟨g, cap, h'⟩
/-- What a round reads: eight words of a row. -/
def Eight (W : World) (g a b c d e f h k : Nat) : Prop :=
  W.cell? ⟨g, 0, none⟩ = some (.int .i64 (a : Int)) ∧ W.cell? ⟨g, 1, none⟩ = some (.int .i64 (b : Int)) ∧ W.cell? ⟨g, 2, none⟩ = some (.int .i64 (c : Int)) ∧ W.cell? ⟨g, 3, none⟩ = some (.int .i64 (d : Int)) ∧
  W.cell? ⟨g, 4, none⟩ = some (.int .i64 (e : Int)) ∧ W.cell? ⟨g, 5, none⟩ = some (.int .i64 (f : Int)) ∧ W.cell? ⟨g, 6, none⟩ = some (.int .i64 (h : Int)) ∧ W.cell? ⟨g, 7, none⟩ = some (.int .i64 (k : Int))
theorem eight_own {W : World} {B g cap a b c d e f h k : Nat} (ho : W.ownsRow B 3 1 (.slice (some ⟨g, 0, none⟩) 8 cap) 8 ((V8.mk a b c d e f h k).l.map iv)) : Eight W g a b c d e f h k :=
  ⟨ho.cellAt 0 (by decide), ho.cellAt 1 (by decide), ho.cellAt 2 (by decide), ho.cellAt 3 (by decide), ho.cellAt 4 (by decide), ho.cellAt 5 (by decide), ho.cellAt 6 (by decide), ho.cellAt 7 (by decide)⟩
theorem row_read {W : World} {B g n cap : Nat} {l : List Nat} (ho : W.ownsRow B 3 1 (.slice (some ⟨g, 0, none⟩) n cap) n (l.map iv)) (hb : ∀ x ∈ l, x < 4294967296) (j : Nat) (hj : j < n) :
    ∃ x : Nat, x < 4294967296 ∧ W.cell? ⟨g, j, none⟩ = some (.int .i64 (x : Int)) ∧ Hid (l[j]? = some x) := by
  have hl : l.length = n := by have := ho.1; simpa using this
  refine ⟨l[j]'(by omega), hb _ (List.getElem_mem _), ?_, List.getElem?_eq_getElem _⟩
  rw [ho.cellAt j (by omega)]
  simp [hl, hj]; rfl
theorem sm1_eq (e : Nat) : bits .xor .i64 (bits .xor .i64 ((rr 6 e : Nat) : Int) ((rr 11 e : Nat) : Int)) ((rr 25 e : Nat) : Int) = ((sm1 e : Nat) : Int) := by
  have h1 := rr_lt 6 e
  have h2 := rr_lt 11 e
  have h3 := rr_lt 25 e
  have h4 := xor32 h1 h2
  rw [i64_xor _ _ (by omega) (by omega), i64_xor _ _ (by omega) (by omega)]; rfl
theorem sm0_eq (e : Nat) : bits .xor .i64 (bits .xor .i64 ((rr 2 e : Nat) : Int) ((rr 13 e : Nat) : Int)) ((rr 22 e : Nat) : Int) = ((sm0 e : Nat) : Int) := by
  have h1 := rr_lt 2 e
  have h2 := rr_lt 13 e
  have h3 := rr_lt 22 e
  have h4 := xor32 h1 h2
  rw [i64_xor _ _ (by omega) (by omega), i64_xor _ _ (by omega) (by omega)]; rfl
theorem chs_eq (e n f g : Nat) (hn : n = 4294967295 - e) (he : e < 4294967296) (hf : f < 4294967296) (hg : g < 4294967296) : bits .xor .i64 (bits .and .i64 (e : Int) (f : Int)) (bits .and .i64 (n : Int) (g : Int)) = ((chs e f g : Nat) : Int) := by
  have h7 : e &&& f < 4294967296 := and32 hf
  have h8 : n &&& g < 4294967296 := and32 hg
  rw [i64_and _ _ (by omega) (by omega), i64_and _ _ (by omega) (by omega), i64_xor _ _ (by omega) (by omega), hn]; rfl
theorem maj_eq (a b c : Nat) (ha : a < 4294967296) (hb : b < 4294967296) (hc : c < 4294967296) : bits .xor .i64 (bits .xor .i64 (bits .and .i64 (a : Int) (b : Int)) (bits .and .i64 (a : Int) (c : Int))) (bits .and .i64 (b : Int) (c : Int)) = ((maj a b c : Nat) : Int) := by
  have h7 : a &&& b < 4294967296 := and32 hb
  have h8 : a &&& c < 4294967296 := and32 hc
  have h9 : b &&& c < 4294967296 := and32 hc
  have h10 := xor32 h7 h8
  rw [i64_and _ _ (by omega) (by omega), i64_and _ _ (by omega) (by omega), i64_and _ _ (by omega) (by omega), i64_xor _ _ (by omega) (by omega), i64_xor _ _ (by omega) (by omega)]; rfl
theorem sum5 (h A C k w t : Nat) (hh : h < 4294967296) (hA : A < 4294967296) (hC : C < 4294967296) (hk : k < 4294967296) (hw : w < 4294967296) (ht : t = h + A + C + k + w) : wrap64 (wrap64 (wrap64 (wrap64 ((h : Int) + (A : Int)) + (C : Int)) + (k : Int)) + (w : Int)) = (t : Int) := by
  unfold wrap64; omega
theorem sum2 (A C t : Nat) (hA : A < 4294967296) (hC : C < 4294967296) (ht : t = A + C) : wrap64 ((A : Int) + (C : Int)) = (t : Int) := by
  unfold wrap64; omega
theorem eight_alloc {W : World} {gv a b c d e f g h : Nat} (E : Eight W gv a b c d e f g h) (hg : gv < W.heap.size) (o : Obj) : Eight (W.alloc o) gv a b c d e f g h := by
  have B : Below W.heap.size W (W.alloc o) := (Below.refl _ _).alloc (Nat.le_refl _) o
  obtain ⟨c0, c1, c2, c3, c4, c5, c6, c7⟩ := E
  exact ⟨(B.cell (p := ⟨gv, 0, none⟩) hg).trans c0, (B.cell (p := ⟨gv, 1, none⟩) hg).trans c1, (B.cell (p := ⟨gv, 2, none⟩) hg).trans c2, (B.cell (p := ⟨gv, 3, none⟩) hg).trans c3, (B.cell (p := ⟨gv, 4, none⟩) hg).trans c4, (B.cell (p := ⟨gv, 5, none⟩) hg).trans c5, (B.cell (p := ⟨gv, 6, none⟩) hg).trans c6, (B.cell (p := ⟨gv, 7, none⟩) hg).trans c7⟩
theorem zip_snoc (ks sc : List Nat) (n kk ww : Nat) (hk : ks[n]? = some kk) (hw : sc[n]? = some ww) : (ks.zip sc).take (n + 1) = (ks.zip sc).take n ++ [(kk, ww)] := by
  have h : (ks.zip sc)[n]? = some (kk, ww) := List.getElem?_zip_eq_some.2 ⟨hk, hw⟩
  rw [List.take_add_one, h]; rfl
theorem getD_at {l : List Nat} {n x : Nat} (hn : n < l.length) (h : l.getD n 0 = x) : l[n]? = some x := by
  rw [List.getElem?_eq_getElem hn, ← h, List.getD_eq_getElem?_getD, List.getElem?_eq_getElem hn]; rfl
theorem rnd_mk {a b c d e f g z kk ww t u y1 y2 : Nat} (ht : t = tt ⟨a, b, c, d, e, f, g, z⟩ kk ww) (hu : u = uu ⟨a, b, c, d, e, f, g, z⟩) (h1 : y1 = t + u) (h2 : y2 = d + t) :
    V8.mk (y1 % 4294967296) a b c (y2 % 4294967296) e f g = rnd ⟨a, b, c, d, e, f, g, z⟩ kk ww := by
  rw [h1, h2, ht, hu]; rfl
theorem own_eight {W : World} {B a b c d e f g z : Nat} (h : B ≤ W.heap.size) :
    (W.alloc (.cells #[.int .i64 (a : Int), .int .i64 (b : Int), .int .i64 (c : Int), .int .i64 (d : Int), .int .i64 (e : Int), .int .i64 (f : Int), .int .i64 (g : Int), .int .i64 (z : Int)] 3)).drew.ownsRow B 3 1 (.slice (some ⟨W.heap.size, 0, none⟩) 8 8) 8 ((V8.mk a b c d e f g z).l.map iv) :=
  (World.ownsRow_lit (e := 3) (size := 1) W _ 8 h (by decide) rfl).drew
theorem two_grown {W W' : World} {row : Option Nat} (hg : W.grownBy W' row) {p q : Addr} {x y : Value} (hp : p.block < W.heap.size) (hq : q.block < W.heap.size) (np : some p.block ≠ row) (nq : some q.block ≠ row) (h : W.cell? p = some x ∧ W.cell? q = some y) :
    W'.cell? p = some x ∧ W'.cell? q = some y :=
  ⟨(World.cell?_of_block (w := W) (hg.block p.block hp np)).trans h.1, (World.cell?_of_block (w := W) (hg.block q.block hq nq)).trans h.2⟩
theorem two_alloc {W : World} {p q : Addr} {x y : Value} (hp : p.block < W.heap.size) (hq : q.block < W.heap.size) (o : Obj) (h : W.cell? p = some x ∧ W.cell? q = some y) :
    (W.alloc o).drew.cell? p = some x ∧ (W.alloc o).drew.cell? q = some y := by
  have B : Below W.heap.size W (W.alloc o) := (Below.refl _ _).alloc (Nat.le_refl _) o
  exact ⟨(B.cell hp).trans h.1, (B.cell hq).trans h.2⟩
theorem one_word (W : World) (x : Nat) : ∀ j u, ([x].map iv)[j]? = some u → (W.alloc (.cells #[.int .i64 (x : Int)] 3)).cell? ((⟨W.heap.size, 0, none⟩ : Addr).add j) = some u := by
  intro j u hj
  rw [add_at, cell_of_row _ _ j #[.int .i64 (x : Int)] 3 (0, 0) (heap_alloc_new W _)]
  simpa [iv] using hj
def addw (x y : Nat) : Nat := (x + y) % 4294967296
theorem blk_l (v V : V8) (s : List UInt8) (h : V = rnds v (keys.zip (sched (words s 16) 48))) : (blk v s).l = List.zipWith addw v.l V.l := by
  unfold blk
  rw [← h]
  rfl
theorem zip_at {l k : List Nat} {n x y : Nat} (hx : l[n]? = some x) (hy : k[n]? = some y) : (List.zipWith addw l k)[n]? = some (addw x y) := by
  rw [List.getElem?_zipWith, hx, hy]
theorem own_word {W : World} {B n x : Nat} {o : Value} {l : List Nat} (h : W.ownsRow B 3 1 o (n + 1) ((l.take n).map iv ++ [x].map iv)) (hx : l[n]? = some x) : W.ownsRow B 3 1 o (n + 1) ((l.take (n + 1)).map iv) := by
  rw [List.take_add_one, hx, List.map_append]; exact h
theorem lt_all {V : V8} (h : V.lt) : ∀ x ∈ V.l, x < 4294967296 := by
  obtain ⟨h1, h2, h3, h4, h5, h6, h7, h8⟩ := h
  intro x hx
  simp only [V8.l, List.mem_cons, List.not_mem_nil, or_false] at hx
  omega
theorem two_grown' {W W' : World} {row : Option Nat} {o : Obj} {ga gb n : Nat} {x y : Value} (hg : (W.alloc o).drew.grownBy W' row) (ha : ga < W.heap.size) (hb : gb < W.heap.size) (na : some ga ≠ row) (nb : some gb ≠ row) (h : W.cell? ⟨ga, n, none⟩ = some x ∧ W.cell? ⟨gb, n, none⟩ = some y) :
    W'.cell? ⟨ga, n, none⟩ = some x ∧ W'.cell? ⟨gb, n, none⟩ = some y := by
  have hs : (W.alloc o).drew.heap.size = W.heap.size + 1 := by simp
  exact two_grown hg (p := ⟨ga, n, none⟩) (q := ⟨gb, n, none⟩) (show ga < _ by omega) (show gb < _ by omega) na nb (two_alloc (p := ⟨ga, n, none⟩) (q := ⟨gb, n, none⟩) ha hb o h)
end Go.Proofs.YtaeokecodejpdaaDoor
