/- What spec.Sha and spec.Short answer, at texts of at most 1099511627776 bytes; old memory stays. -/
import Derived.Test.YtaeokecodejpdaaDoorSha2
import Derived.Test.YtaeokecodejpdaaDoorSnum2
import Derived.Test.YtaeokecodejpdaaDoorLaw
namespace Go.Proofs.YtaeokecodejpdaaDoor
open Go.RowKit
open Num
set_option linter.unusedVariables false
theorem info5f : ∃ i, Tryd.prog.info? 5 = some i ∧ i.zero = some (.int .u8 0) ∧ i.size = 1 ∧ i.bytes = 1 :=
  info_parts (by kernel_rfl)
def lenOf : Value → Nat | .slice _ n _ => n | _ => 0
theorem own_below {W W' : World} {B g n cap : Nat} {t : TypeId} {xs : List Value} (h : W.ownsRow B t 1 (.slice (some ⟨g, 0, none⟩) n cap) n xs) (hb : Below W.heap.size W W') : W'.ownsRow B t 1 (.slice (some ⟨g, 0, none⟩) n cap) n xs :=
  h.kept (w' := W') (row := none) ⟨hb.os, hb.tape, hb.output, hb.size, fun k hk _ => hb.block k hk⟩ (.inr (fun e => by cases e))
theorem own_mono {w : World} {B B' : Nat} {t : TypeId} {v : Value} {n : Nat} {xs : List Value} (h : w.ownsRow B' t 1 v n xs) (hB : B ≤ B') : w.ownsRow B t 1 v n xs :=
  ⟨h.1, h.2.imp id (fun ⟨g, cap, cur, h1, h2, r⟩ => ⟨g, cap, cur, h1, Nat.le_trans hB h2, r⟩)⟩
theorem own_first (w : World) : (w.alloc (.cells #[.int .u8 128] 5)).ownsRow w.heap.size 5 1 (.slice (some ⟨w.heap.size, 0, none⟩) 1 1) (0 + 1) (((128 : UInt8) :: List.replicate 0 0).map u8v) :=
  World.ownsRow_lit (e := 5) (size := 1) w #[.int .u8 128] 1 (Nat.le_refl _) (by decide) rfl
theorem own_zero {w : World} {b k : Nat} {v : Value} (h : w.ownsRow b 5 1 v (k + 1 + 1) (((128 : UInt8) :: List.replicate k 0).map u8v ++ ([(0 : UInt8)].map u8v))) : w.ownsRow b 5 1 v (k + 1 + 1) (((128 : UInt8) :: List.replicate (k + 1) 0).map u8v) := by
  rw [List.replicate_succ', ← List.cons_append, List.map_append]; exact h
theorem one_cell0 (w : World) : ∀ j u, ([(0 : UInt8)].map u8v)[j]? = some u → (w.alloc (.cells #[.int .u8 0] 5)).cell? ((⟨w.heap.size, 0, none⟩ : Addr).add j) = some u := one_cell w 0 (by decide) (by decide)
theorem len_byte (N K : Nat) (hN : N ≤ 1099511627776) : bits .and .i64 ((N : Int) * 8 / (K : Int)) 255 % 256 = ((N * 8 / K % 256 : Nat) : Int) := by
  have e : (N : Int) * 8 / (K : Int) = ((N * 8 / K : Nat) : Int) := by simp
  have h : N * 8 / K < 9223372036854775808 := Nat.lt_of_le_of_lt (Nat.div_le_self ..) (by omega)
  have hm := i64_low (N * 8 / K) 8 h (by decide)
  have hm' : bits .and .i64 ((N * 8 / K : Nat) : Int) 255 = ((N * 8 / K % 256 : Nat) : Int) := hm
  rw [e, hm']
  omega
theorem own_row {W : World} {g n B : Nat} {l : List Nat} (h : W.heap[g]? = some (.cells (l.map iv).toArray 3 (0, 0))) (hl : l.length = n) (hB : B ≤ g) (hm : n ≤ maxLen) : W.ownsRow B 3 1 (.slice (some ⟨g, 0, none⟩) n n) n (l.map iv) :=
  ⟨by simp [hl], .inr ⟨g, n, _, rfl, hB, h, Nat.le_refl _, hm, by simp [hl], List.take_of_length_le (by simp [hl])⟩⟩
def hobj : Obj := .cells #[.int .i64 1779033703, .int .i64 3144134277, .int .i64 1013904242, .int .i64 2773480762, .int .i64 1359893119, .int .i64 2600822924, .int .i64 528734635, .int .i64 1541459225] 3
theorem own_h0 {W : World} {B : Nat} (h : B ≤ W.heap.size) : (W.alloc hobj).ownsRow B 3 1 (.slice (some ⟨W.heap.size, 0, none⟩) 8 8) 8 (h0.l.map iv) :=
  World.ownsRow_lit (e := 3) (size := 1) W _ 8 h (by decide) rfl
theorem sub_list (T : ByteArray) (a b : Nat) : (T.extract a (a + b)).data.toList = (T.data.toList.drop a).take b := by
  simp [ByteArray.data_extract, List.extract]
theorem sub_size (T : ByteArray) (a b : Nat) (h : a + b ≤ T.size) : (T.extract a (a + b)).size = b := by
  rw [ByteArray.size_extract]; omega
theorem four_cell (w : World) (x y z u : UInt8) : ∀ j v, ([x, y, z, u].map u8v)[j]? = some v → (w.alloc (.cells #[.int .u8 (x.toNat : Int), .int .u8 (y.toNat : Int), .int .u8 (z.toNat : Int), .int .u8 (u.toNat : Int)] 5)).cell? ((⟨w.heap.size, 0, none⟩ : Addr).add j) = some v := by
  intro j v hj
  rw [add_at, cell_of_row _ _ j #[.int .u8 (x.toNat : Int), .int .u8 (y.toNat : Int), .int .u8 (z.toNat : Int), .int .u8 (u.toNat : Int)] 5 (0, 0) (heap_alloc_new w _)]
  simpa [u8v] using hj
theorem of_small (n : Nat) (h : n < 256) : ((UInt8.ofNat n).toNat : Int) = (n : Int) := by
  have : (UInt8.ofNat n).toNat = n := by simp [UInt8.toNat_ofNat']; omega
  rw [this]
theorem and255 (x : Nat) (h : x < 9223372036854775808) : bits .and .i64 (x : Int) 255 = ((UInt8.ofNat (x % 256)).toNat : Int) := by
  rw [of_small _ (by omega)]
  exact i64_low x 8 h (by decide)
theorem u8_byte (b : UInt8) : IntKind.u8.wrap (b.toNat : Int) = (b.toNat : Int) := by
  have := b.toNat_lt
  simp [IntKind.wrap, IntKind.signed, IntKind.bits]; omega
theorem own_four {w : World} {b n x : Nat} {v : Value} {l : List Nat} (h : w.ownsRow b 5 1 v (4 * n + 4) ((outl (l.take n)).map u8v ++ (outb x).map u8v)) (hx : l[n]? = some x) : w.ownsRow b 5 1 v (4 * (n + 1)) ((outl (l.take (n + 1))).map u8v) := by
  rw [List.take_add_one, hx, show (l.take n ++ (some x).toList) = l.take n ++ [x] from rfl, outl_snoc, List.map_append]; exact h
theorem byte_nn (a : Int) : 0 ≤ a % 256 := by omega
theorem byte_lt' (a : Int) : a % 256 < 256 := by omega
theorem own_len {w : World} {b k n : Nat} {v : Value} {N : Nat} {x : Int} (hx : x = ((N * 8 / 2 ^ (56 - 8 * n) % 256 : Nat) : Int)) (h : w.ownsRow b 5 1 v k ((padl N n).map u8v ++ [u8v (UInt8.ofNat x.toNat)])) : w.ownsRow b 5 1 v k ((padl N (n + 1)).map u8v) := by
  subst hx
  rw [padl_succ, List.map_append]; exact h
end Go.Proofs.YtaeokecodejpdaaDoor
