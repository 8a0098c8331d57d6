/- What spec.Sha and spec.Short answer, at texts of at most 1099511627776 bytes; old memory stays. -/
import Derived.Test.YtmjlpdmdpagggaaSha2
import Derived.Test.YtmjlpdmdpagggaaSnum2
import Derived.Test.YtmjlpdmdpagggaaLaw
namespace Go.Proofs.Ytmjlpdmdpagggaa
open Go.RowKit
open Num
set_option linter.unusedVariables false
theorem info5f : ∃ i, Try.prog.info? 5 = some i ∧ i.zero = some (.int .u8 0) ∧ i.size = 1 ∧ i.bytes = 1 :=
  info_parts (by kernel_rfl)
def lenOf : Value → Nat | .slice _ n _ => n | _ => 0
theorem own_below {W W' : World} {B g n cap : Nat} {t : TypeId} {xs : List Value} (h : W.ownsRow B t 1 (.slice (some ⟨g, 0, none⟩) n cap) n xs) (hb : Below W.heap.size W W') : W'.ownsRow B t 1 (.slice (some ⟨g, 0, none⟩) n cap) n xs :=
  h.kept (w' := W') (row := none) ⟨hb.os, hb.tape, hb.output, hb.size, fun k hk _ => hb.block k hk⟩ (.inr (fun e => by cases e))
theorem own_mono {w : World} {B B' : Nat} {t : TypeId} {v : Value} {n : Nat} {xs : List Value} (h : w.ownsRow B' t 1 v n xs) (hB : B ≤ B') : w.ownsRow B t 1 v n xs :=
  ⟨h.1, h.2.imp id (fun ⟨g, cap, cur, h1, h2, r⟩ => ⟨g, cap, cur, h1, Nat.le_trans hB h2, r⟩)⟩
theorem own_first (w : World) : (w.alloc (.cells #[.int .u8 128] 5)).ownsRow w.heap.size 5 1 (.slice (some ⟨w.heap.size, 0, none⟩) 1 1) (0 + 1) (((128 : UInt8) :: List.replicate 0 0).map u8v) :=
  World.ownsRow_lit (e := 5) (size := 1) w #[.int .u8 128] 1 (Nat.le_refl _) (by decide) rfl
theorem own_zero {w : World} {b k : Nat} {v : Value} (h : w.ownsRow b 5 1 v (k + 1 + 1) (((128 : UInt8) :: List.replicate k 0).map u8v ++ ([(0 : UInt8)].map u8v))) : w.ownsRow b 5 1 v (k + 1 + 1) (((128 : UInt8) :: List.replicate (k + 1) 0).map u8v) := by
  rw [List.replicate_succ', ← List.cons_append, List.map_append]; exact h
theorem one_cell0 (w : World) : ∀ j u, ([(0 : UInt8)].map u8v)[j]? = some u → (w.alloc (.cells #[.int .u8 0] 5)).cell? ((⟨w.heap.size, 0, none⟩ : Addr).add j) = some u := one_cell w 0 (by decide) (by decide)
theorem len_byte (N K : Nat) (hN : N ≤ 1099511627776) : bits .and .i64 ((N : Int) * 8 / (K : Int)) 255 % 256 = ((N * 8 / K % 256 : Nat) : Int) := by
  have e : (N : Int) * 8 / (K : Int) = ((N * 8 / K : Nat) : Int) := by simp
  have h : N * 8 / K < 9223372036854775808 := Nat.lt_of_le_of_lt (Nat.div_le_self ..) (by omega)
  have hm := i64_low (N * 8 / K) 8 h (by decide)
  have hm' : bits .and .i64 ((N * 8 / K : Nat) : Int) 255 = ((N * 8 / K % 256 : Nat) : Int) := hm
  rw [e, hm']
  omega
theorem own_row {W : World} {g n B : Nat} {l : List Nat} (h : W.heap[g]? = some (.cells (l.map iv).toArray 3 (0, 0))) (hl : l.length = n) (hB : B ≤ g) (hm : n ≤ maxLen) : W.ownsRow B 3 1 (.slice (some ⟨g, 0, none⟩) n n) n (l.map iv) :=
  ⟨by simp [hl], .inr ⟨g, n, _, rfl, hB, h, Nat.le_refl _, hm, by simp [hl], List.take_of_length_le (by simp [hl])⟩⟩
def hobj : Obj := .cells #[.int .i64 1779033703, .int .i64 3144134277, .int .i64 1013904242, .int .i64 2773480762, .int .i64 1359893119, .int .i64 2600822924, .int .i64 528734635, .int .i64 1541459225] 3
theorem own_h0 {W : World} {B : Nat} (h : B ≤ W.heap.size) : (W.alloc hobj).ownsRow B 3 1 (.slice (some ⟨W.heap.size, 0, none⟩) 8 8) 8 (h0.l.map iv) :=
  World.ownsRow_lit (e := 3) (size := 1) W _ 8 h (by decide) rfl
theorem sub_list (T : ByteArray) (a b : Nat) : (T.extract a (a + b)).data.toList = (T.data.toList.drop a).take b := by
  simp [ByteArray.data_extract, List.extract]
theorem sub_size (T : ByteArray) (a b : Nat) (h : a + b ≤ T.size) : (T.extract a (a + b)).size = b := by
  rw [ByteArray.size_extract]; omega
theorem four_cell (w : World) (x y z u : UInt8) : ∀ j v, ([x, y, z, u].map u8v)[j]? = some v → (w.alloc (.cells #[.int .u8 (x.toNat : Int), .int .u8 (y.toNat : Int), .int .u8 (z.toNat : Int), .int .u8 (u.toNat : Int)] 5)).cell? ((⟨w.heap.size, 0, none⟩ : Addr).add j) = some v := by
  intro j v hj
  rw [add_at, cell_of_row _ _ j #[.int .u8 (x.toNat : Int), .int .u8 (y.toNat : Int), .int .u8 (z.toNat : Int), .int .u8 (u.toNat : Int)] 5 (0, 0) (heap_alloc_new w _)]
  simpa [u8v] using hj
theorem of_small (n : Nat) (h : n < 256) : ((UInt8.ofNat n).toNat : Int) = (n : Int) := by
  have : (UInt8.ofNat n).toNat = n := by simp [UInt8.toNat_ofNat']; omega
  rw [this]
theorem and255 (x : Nat) (h : x < 9223372036854775808) : bits .and .i64 (x : Int) 255 = ((UInt8.ofNat (x % 256)).toNat : Int) := by
  rw [of_small _ (by omega)]
  exact i64_low x 8 h (by decide)
theorem u8_byte (b : UInt8) : IntKind.u8.wrap (b.toNat : Int) = (b.toNat : Int) := by
  have := b.toNat_lt
  simp [IntKind.wrap, IntKind.signed, IntKind.bits]; omega
theorem own_four {w : World} {b n x : Nat} {v : Value} {l : List Nat} (h : w.ownsRow b 5 1 v (4 * n + 4) ((outl (l.take n)).map u8v ++ (outb x).map u8v)) (hx : l[n]? = some x) : w.ownsRow b 5 1 v (4 * (n + 1)) ((outl (l.take (n + 1))).map u8v) := by
  rw [List.take_add_one, hx, show (l.take n ++ (some x).toList) = l.take n ++ [x] from rfl, outl_snoc, List.map_append]; exact h
theorem byte_nn (a : Int) : 0 ≤ a % 256 := by omega
theorem byte_lt' (a : Int) : a % 256 < 256 := by omega
theorem own_len {w : World} {b k n : Nat} {v : Value} {N : Nat} {x : Int} (hx : x = ((N * 8 / 2 ^ (56 - 8 * n) % 256 : Nat) : Int)) (h : w.ownsRow b 5 1 v k ((padl N n).map u8v ++ [u8v (UInt8.ofNat x.toNat)])) : w.ownsRow b 5 1 v k ((padl N (n + 1)).map u8v) := by
  subst hx
  rw [padl_succ, List.map_append]; exact h
set_option maxHeartbeats 2000000 in
set_option maxRecDepth 100000 in
theorem spec_sha (s : ByteArray) (w : World) (hs : s.size ≤ 1099511627776) :
    Calls Try.prog 37 #[.string s] w fun e w' => e = .returned (.string ⟨(shal s.data.toList).toArray⟩) ∧ Below w.heap.size w w' := by
  obtain ⟨i0, hi, hz0, hz1, hz2⟩ := info5f
  obtain ⟨N, hN⟩ : ∃ N, N = s.size := ⟨_, rfl⟩
  have hzl := zs_lt N
  obtain ⟨Z, hZ⟩ : ∃ Z, Z = zs N := ⟨_, rfl⟩
  rw [← hZ] at hzl
  have HZ : Hid (Z = zs N) := hZ
  clear hZ
  go_enter Try.func37, Try.ntmps37
  go_wp2
  go_loopw [4] (fun o wr => ∃ k g cap : Nat, k ≤ Z ∧ o = .slice (some ⟨g, 0, none⟩) (k + 1) cap ∧ Hid (wr.ownsRow w.heap.size 5 1 (.slice (some ⟨g, 0, none⟩) (k + 1) cap) (k + 1) (((128 : UInt8) :: List.replicate k 0).map u8v)) ∧ Below w.heap.size w wr) (fun o _ => Z + 1 - lenOf o)
  case atStart => exact ⟨0, _, _, by omega, rfl, own_first w, (Below.refl _ _).alloc (Nat.le_refl _) _⟩
  case round =>
    obtain ⟨k, g, cap, hk, rfl, HO, hb⟩ := hrel
    have hsz : w.heap.size ≤ wr.heap.size := hb.size
    by_cases hlt : k < Z
    · have hno : ¬ ((s.size : Int) + ((k : Int) + 1)) % 64 = 56 := by
        have := zs_no N k (by rw [← HZ.out]; exact hlt)
        omega
      have HC : Hid (_) := one_cell0 wr
      go_wp2_with (at_builtin; refine wpList_append_own _ rfl _ _ 22 rfl w.heap.size 5 i0 (.int .u8 0) 1 1 Try.underlying22 hi hz0 hz1 hz2 rfl (by decide) _ _ _ rfl (HO.out.alloc _) ⟨wr.heap.size, 0, none⟩ 1 1 ([(0 : UInt8)].map u8v) rfl rfl HC (u8v_one _) (by unfold maxLen; omega) (by omega) (by simp; omega) ?_)
      intro v' w1 hown' hgrow _
      obtain ⟨g1, cap1, rfl⟩ := row_form hown'
      have HO1 : Hid (w1.ownsRow w.heap.size 5 1 (.slice (some ⟨g1, 0, none⟩) (k + 1 + 1) cap1) (k + 1 + 1) (((128 : UInt8) :: List.replicate (k + 1) 0).map u8v)) := own_zero (by simpa using hown')
      have hb1 : Below w.heap.size w w1 := (hb.alloc hsz _).grown hgrow (by simp; omega) (fun j hj => (HO.out.lt j hj).1)
      clear hown' hgrow
      go_wp2
      go_roundw
      case rel =>
        have R : ∃ k' g' cap' : Nat, k' ≤ Z ∧ Value.slice (some ⟨g1, 0, none⟩) (k + 1 + 1) cap1 = .slice (some ⟨g', 0, none⟩) (k' + 1) cap' ∧ Hid (w1.ownsRow w.heap.size 5 1 (.slice (some ⟨g', 0, none⟩) (k' + 1) cap') (k' + 1) (((128 : UInt8) :: List.replicate k' 0).map u8v)) ∧ Below w.heap.size w w1 :=
          ⟨k + 1, g1, cap1, by omega, rfl, HO1, hb1⟩
        first | exact R | ((repeat apply Exists.intro); exact ⟨R, rfl⟩)
      case measure => simp [lenOf]; omega
    · obtain rfl : k = Z := by omega
      have hyes : ((s.size : Int) + ((k : Int) + 1)) % 64 = 56 := by
        have := zs_yes N
        rw [← HZ.out] at this
        omega
      have HO1 : Hid (wr.ownsRow w.heap.size 5 1 (.slice (some ⟨g, 0, none⟩) (k + 1) cap) (k + 1 + 0) ((padl N 0).map u8v)) := by
        have h1 := HO.out
        rw [HZ.out] at h1 ⊢
        show World.ownsRow _ _ _ _ _ _ _
        simpa [padl, pad1] using h1
      clear HO hlt hk
      go_wp2
      clear hyes
      go_loopw [4, 5] (fun o i wr => ∃ n g cap : Nat, n ≤ 8 ∧ i = .int .i64 n ∧ o = .slice (some ⟨g, 0, none⟩) (k + 1 + n) cap ∧ Hid (wr.ownsRow w.heap.size 5 1 (.slice (some ⟨g, 0, none⟩) (k + 1 + n) cap) (k + 1 + n) ((padl N n).map u8v)) ∧ Below w.heap.size w wr) (fun _ i _ => 8 - (intOf i).toNat)
      case atStart => exact ⟨0, g, cap, by omega, rfl, rfl, HO1, hb⟩
      case round =>
        clear HO1 hb hsz
        obtain ⟨n, g2, cap2, hn, rfl, rfl, HO, hb⟩ := hrel
        have hsz : w.heap.size ≤ wr.heap.size := hb.size
        by_cases hlt : n < 8
        · rcases (show n = 0 ∨ n = 1 ∨ n = 2 ∨ n = 3 ∨ n = 4 ∨ n = 5 ∨ n = 6 ∨ n = 7 from by omega) with rfl | rfl | rfl | rfl | rfl | rfl | rfl | rfl
          · have HC : Hid (_) := one_cell wr ((bits .and .i64 ((s.size : Int) * 8 / 72057594037927936) 255) % 256) (byte_nn _) (byte_lt' _)
            have HX : Hid ((bits .and .i64 ((s.size : Int) * 8 / 72057594037927936) 255) % 256 = ((s.size * 8 / 2 ^ (56 - 8 * 0) % 256 : Nat) : Int)) := len_byte s.size 72057594037927936 hs
            go_wp2_with (at_builtin; refine wpList_append_own _ rfl _ _ 22 rfl w.heap.size 5 i0 (.int .u8 0) 1 1 Try.underlying22 hi hz0 hz1 hz2 rfl (by decide) _ _ _ rfl (HO.out.alloc _) ⟨wr.heap.size, 0, none⟩ 1 1 ([UInt8.ofNat ((bits .and .i64 ((s.size : Int) * 8 / 72057594037927936) 255) % 256).toNat].map u8v) rfl rfl HC (u8v_one _) (by unfold maxLen; omega) (by omega) (by simp; omega) ?_)
            intro v' w1 hown' hgrow _
            obtain ⟨g1, cap1, rfl⟩ := row_form hown'
            have HO1 : Hid (w1.ownsRow w.heap.size 5 1 (.slice (some ⟨g1, 0, none⟩) (k + 1 + (0 + 1)) cap1) (k + 1 + (0 + 1)) ((padl N (0 + 1)).map u8v)) := by rw [hN]; exact own_len HX.out hown'
            have hb1 : Below w.heap.size w w1 := (hb.alloc hsz _).grown hgrow (by simp; omega) (fun j hj => (HO.out.lt j hj).1)
            clear hown' hgrow HC HX
            go_wp2
            go_roundw
            case rel =>
              have R : ∃ n' g' cap' : Nat, n' ≤ 8 ∧ Value.int .i64 1 = .int .i64 n' ∧ Value.slice (some ⟨g1, 0, none⟩) (k + 1 + 0 + 1) cap1 = .slice (some ⟨g', 0, none⟩) (k + 1 + n') cap' ∧ Hid (w1.ownsRow w.heap.size 5 1 (.slice (some ⟨g', 0, none⟩) (k + 1 + n') cap') (k + 1 + n') ((padl N n').map u8v)) ∧ Below w.heap.size w w1 :=
                ⟨0 + 1, g1, cap1, by omega, rfl, rfl, HO1, hb1⟩
              first | exact R | ((repeat apply Exists.intro); exact ⟨R, rfl⟩)
            case measure => simp [intOf]
          · have HC : Hid (_) := one_cell wr ((bits .and .i64 ((s.size : Int) * 8 / 281474976710656) 255) % 256) (byte_nn _) (byte_lt' _)
            have HX : Hid ((bits .and .i64 ((s.size : Int) * 8 / 281474976710656) 255) % 256 = ((s.size * 8 / 2 ^ (56 - 8 * 1) % 256 : Nat) : Int)) := len_byte s.size 281474976710656 hs
            go_wp2_with (at_builtin; refine wpList_append_own _ rfl _ _ 22 rfl w.heap.size 5 i0 (.int .u8 0) 1 1 Try.underlying22 hi hz0 hz1 hz2 rfl (by decide) _ _ _ rfl (HO.out.alloc _) ⟨wr.heap.size, 0, none⟩ 1 1 ([UInt8.ofNat ((bits .and .i64 ((s.size : Int) * 8 / 281474976710656) 255) % 256).toNat].map u8v) rfl rfl HC (u8v_one _) (by unfold maxLen; omega) (by omega) (by simp; omega) ?_)
            intro v' w1 hown' hgrow _
            obtain ⟨g1, cap1, rfl⟩ := row_form hown'
            have HO1 : Hid (w1.ownsRow w.heap.size 5 1 (.slice (some ⟨g1, 0, none⟩) (k + 1 + (1 + 1)) cap1) (k + 1 + (1 + 1)) ((padl N (1 + 1)).map u8v)) := by rw [hN]; exact own_len HX.out hown'
            have hb1 : Below w.heap.size w w1 := (hb.alloc hsz _).grown hgrow (by simp; omega) (fun j hj => (HO.out.lt j hj).1)
            clear hown' hgrow HC HX
            go_wp2
            go_roundw
            case rel =>
              have R : ∃ n' g' cap' : Nat, n' ≤ 8 ∧ Value.int .i64 2 = .int .i64 n' ∧ Value.slice (some ⟨g1, 0, none⟩) (k + 1 + 1 + 1) cap1 = .slice (some ⟨g', 0, none⟩) (k + 1 + n') cap' ∧ Hid (w1.ownsRow w.heap.size 5 1 (.slice (some ⟨g', 0, none⟩) (k + 1 + n') cap') (k + 1 + n') ((padl N n').map u8v)) ∧ Below w.heap.size w w1 :=
                ⟨1 + 1, g1, cap1, by omega, rfl, rfl, HO1, hb1⟩
              first | exact R | ((repeat apply Exists.intro); exact ⟨R, rfl⟩)
            case measure => simp [intOf]
          · have HC : Hid (_) := one_cell wr ((bits .and .i64 ((s.size : Int) * 8 / 1099511627776) 255) % 256) (byte_nn _) (byte_lt' _)
            have HX : Hid ((bits .and .i64 ((s.size : Int) * 8 / 1099511627776) 255) % 256 = ((s.size * 8 / 2 ^ (56 - 8 * 2) % 256 : Nat) : Int)) := len_byte s.size 1099511627776 hs
            go_wp2_with (at_builtin; refine wpList_append_own _ rfl _ _ 22 rfl w.heap.size 5 i0 (.int .u8 0) 1 1 Try.underlying22 hi hz0 hz1 hz2 rfl (by decide) _ _ _ rfl (HO.out.alloc _) ⟨wr.heap.size, 0, none⟩ 1 1 ([UInt8.ofNat ((bits .and .i64 ((s.size : Int) * 8 / 1099511627776) 255) % 256).toNat].map u8v) rfl rfl HC (u8v_one _) (by unfold maxLen; omega) (by omega) (by simp; omega) ?_)
            intro v' w1 hown' hgrow _
            obtain ⟨g1, cap1, rfl⟩ := row_form hown'
            have HO1 : Hid (w1.ownsRow w.heap.size 5 1 (.slice (some ⟨g1, 0, none⟩) (k + 1 + (2 + 1)) cap1) (k + 1 + (2 + 1)) ((padl N (2 + 1)).map u8v)) := by rw [hN]; exact own_len HX.out hown'
            have hb1 : Below w.heap.size w w1 := (hb.alloc hsz _).grown hgrow (by simp; omega) (fun j hj => (HO.out.lt j hj).1)
            clear hown' hgrow HC HX
            go_wp2
            go_roundw
            case rel =>
              have R : ∃ n' g' cap' : Nat, n' ≤ 8 ∧ Value.int .i64 3 = .int .i64 n' ∧ Value.slice (some ⟨g1, 0, none⟩) (k + 1 + 2 + 1) cap1 = .slice (some ⟨g', 0, none⟩) (k + 1 + n') cap' ∧ Hid (w1.ownsRow w.heap.size 5 1 (.slice (some ⟨g', 0, none⟩) (k + 1 + n') cap') (k + 1 + n') ((padl N n').map u8v)) ∧ Below w.heap.size w w1 :=
                ⟨2 + 1, g1, cap1, by omega, rfl, rfl, HO1, hb1⟩
              first | exact R | ((repeat apply Exists.intro); exact ⟨R, rfl⟩)
            case measure => simp [intOf]
          · have HC : Hid (_) := one_cell wr ((bits .and .i64 ((s.size : Int) * 8 / 4294967296) 255) % 256) (byte_nn _) (byte_lt' _)
            have HX : Hid ((bits .and .i64 ((s.size : Int) * 8 / 4294967296) 255) % 256 = ((s.size * 8 / 2 ^ (56 - 8 * 3) % 256 : Nat) : Int)) := len_byte s.size 4294967296 hs
            go_wp2_with (at_builtin; refine wpList_append_own _ rfl _ _ 22 rfl w.heap.size 5 i0 (.int .u8 0) 1 1 Try.underlying22 hi hz0 hz1 hz2 rfl (by decide) _ _ _ rfl (HO.out.alloc _) ⟨wr.heap.size, 0, none⟩ 1 1 ([UInt8.ofNat ((bits .and .i64 ((s.size : Int) * 8 / 4294967296) 255) % 256).toNat].map u8v) rfl rfl HC (u8v_one _) (by unfold maxLen; omega) (by omega) (by simp; omega) ?_)
            intro v' w1 hown' hgrow _
            obtain ⟨g1, cap1, rfl⟩ := row_form hown'
            have HO1 : Hid (w1.ownsRow w.heap.size 5 1 (.slice (some ⟨g1, 0, none⟩) (k + 1 + (3 + 1)) cap1) (k + 1 + (3 + 1)) ((padl N (3 + 1)).map u8v)) := by rw [hN]; exact own_len HX.out hown'
            have hb1 : Below w.heap.size w w1 := (hb.alloc hsz _).grown hgrow (by simp; omega) (fun j hj => (HO.out.lt j hj).1)
            clear hown' hgrow HC HX
            go_wp2
            go_roundw
            case rel =>
              have R : ∃ n' g' cap' : Nat, n' ≤ 8 ∧ Value.int .i64 4 = .int .i64 n' ∧ Value.slice (some ⟨g1, 0, none⟩) (k + 1 + 3 + 1) cap1 = .slice (some ⟨g', 0, none⟩) (k + 1 + n') cap' ∧ Hid (w1.ownsRow w.heap.size 5 1 (.slice (some ⟨g', 0, none⟩) (k + 1 + n') cap') (k + 1 + n') ((padl N n').map u8v)) ∧ Below w.heap.size w w1 :=
                ⟨3 + 1, g1, cap1, by omega, rfl, rfl, HO1, hb1⟩
              first | exact R | ((repeat apply Exists.intro); exact ⟨R, rfl⟩)
            case measure => simp [intOf]
          · have HC : Hid (_) := one_cell wr ((bits .and .i64 ((s.size : Int) * 8 / 16777216) 255) % 256) (byte_nn _) (byte_lt' _)
            have HX : Hid ((bits .and .i64 ((s.size : Int) * 8 / 16777216) 255) % 256 = ((s.size * 8 / 2 ^ (56 - 8 * 4) % 256 : Nat) : Int)) := len_byte s.size 16777216 hs
            go_wp2_with (at_builtin; refine wpList_append_own _ rfl _ _ 22 rfl w.heap.size 5 i0 (.int .u8 0) 1 1 Try.underlying22 hi hz0 hz1 hz2 rfl (by decide) _ _ _ rfl (HO.out.alloc _) ⟨wr.heap.size, 0, none⟩ 1 1 ([UInt8.ofNat ((bits .and .i64 ((s.size : Int) * 8 / 16777216) 255) % 256).toNat].map u8v) rfl rfl HC (u8v_one _) (by unfold maxLen; omega) (by omega) (by simp; omega) ?_)
            intro v' w1 hown' hgrow _
            obtain ⟨g1, cap1, rfl⟩ := row_form hown'
            have HO1 : Hid (w1.ownsRow w.heap.size 5 1 (.slice (some ⟨g1, 0, none⟩) (k + 1 + (4 + 1)) cap1) (k + 1 + (4 + 1)) ((padl N (4 + 1)).map u8v)) := by rw [hN]; exact own_len HX.out hown'
            have hb1 : Below w.heap.size w w1 := (hb.alloc hsz _).grown hgrow (by simp; omega) (fun j hj => (HO.out.lt j hj).1)
            clear hown' hgrow HC HX
            go_wp2
            go_roundw
            case rel =>
              have R : ∃ n' g' cap' : Nat, n' ≤ 8 ∧ Value.int .i64 5 = .int .i64 n' ∧ Value.slice (some ⟨g1, 0, none⟩) (k + 1 + 4 + 1) cap1 = .slice (some ⟨g', 0, none⟩) (k + 1 + n') cap' ∧ Hid (w1.ownsRow w.heap.size 5 1 (.slice (some ⟨g', 0, none⟩) (k + 1 + n') cap') (k + 1 + n') ((padl N n').map u8v)) ∧ Below w.heap.size w w1 :=
                ⟨4 + 1, g1, cap1, by omega, rfl, rfl, HO1, hb1⟩
              first | exact R | ((repeat apply Exists.intro); exact ⟨R, rfl⟩)
            case measure => simp [intOf]
          · have HC : Hid (_) := one_cell wr ((bits .and .i64 ((s.size : Int) * 8 / 65536) 255) % 256) (byte_nn _) (byte_lt' _)
            have HX : Hid ((bits .and .i64 ((s.size : Int) * 8 / 65536) 255) % 256 = ((s.size * 8 / 2 ^ (56 - 8 * 5) % 256 : Nat) : Int)) := len_byte s.size 65536 hs
            go_wp2_with (at_builtin; refine wpList_append_own _ rfl _ _ 22 rfl w.heap.size 5 i0 (.int .u8 0) 1 1 Try.underlying22 hi hz0 hz1 hz2 rfl (by decide) _ _ _ rfl (HO.out.alloc _) ⟨wr.heap.size, 0, none⟩ 1 1 ([UInt8.ofNat ((bits .and .i64 ((s.size : Int) * 8 / 65536) 255) % 256).toNat].map u8v) rfl rfl HC (u8v_one _) (by unfold maxLen; omega) (by omega) (by simp; omega) ?_)
            intro v' w1 hown' hgrow _
            obtain ⟨g1, cap1, rfl⟩ := row_form hown'
            have HO1 : Hid (w1.ownsRow w.heap.size 5 1 (.slice (some ⟨g1, 0, none⟩) (k + 1 + (5 + 1)) cap1) (k + 1 + (5 + 1)) ((padl N (5 + 1)).map u8v)) := by rw [hN]; exact own_len HX.out hown'
            have hb1 : Below w.heap.size w w1 := (hb.alloc hsz _).grown hgrow (by simp; omega) (fun j hj => (HO.out.lt j hj).1)
            clear hown' hgrow HC HX
            go_wp2
            go_roundw
            case rel =>
              have R : ∃ n' g' cap' : Nat, n' ≤ 8 ∧ Value.int .i64 6 = .int .i64 n' ∧ Value.slice (some ⟨g1, 0, none⟩) (k + 1 + 5 + 1) cap1 = .slice (some ⟨g', 0, none⟩) (k + 1 + n') cap' ∧ Hid (w1.ownsRow w.heap.size 5 1 (.slice (some ⟨g', 0, none⟩) (k + 1 + n') cap') (k + 1 + n') ((padl N n').map u8v)) ∧ Below w.heap.size w w1 :=
                ⟨5 + 1, g1, cap1, by omega, rfl, rfl, HO1, hb1⟩
              first | exact R | ((repeat apply Exists.intro); exact ⟨R, rfl⟩)
            case measure => simp [intOf]
          · have HC : Hid (_) := one_cell wr ((bits .and .i64 ((s.size : Int) * 8 / 256) 255) % 256) (byte_nn _) (byte_lt' _)
            have HX : Hid ((bits .and .i64 ((s.size : Int) * 8 / 256) 255) % 256 = ((s.size * 8 / 2 ^ (56 - 8 * 6) % 256 : Nat) : Int)) := len_byte s.size 256 hs
            go_wp2_with (at_builtin; refine wpList_append_own _ rfl _ _ 22 rfl w.heap.size 5 i0 (.int .u8 0) 1 1 Try.underlying22 hi hz0 hz1 hz2 rfl (by decide) _ _ _ rfl (HO.out.alloc _) ⟨wr.heap.size, 0, none⟩ 1 1 ([UInt8.ofNat ((bits .and .i64 ((s.size : Int) * 8 / 256) 255) % 256).toNat].map u8v) rfl rfl HC (u8v_one _) (by unfold maxLen; omega) (by omega) (by simp; omega) ?_)
            intro v' w1 hown' hgrow _
            obtain ⟨g1, cap1, rfl⟩ := row_form hown'
            have HO1 : Hid (w1.ownsRow w.heap.size 5 1 (.slice (some ⟨g1, 0, none⟩) (k + 1 + (6 + 1)) cap1) (k + 1 + (6 + 1)) ((padl N (6 + 1)).map u8v)) := by rw [hN]; exact own_len HX.out hown'
            have hb1 : Below w.heap.size w w1 := (hb.alloc hsz _).grown hgrow (by simp; omega) (fun j hj => (HO.out.lt j hj).1)
            clear hown' hgrow HC HX
            go_wp2
            go_roundw
            case rel =>
              have R : ∃ n' g' cap' : Nat, n' ≤ 8 ∧ Value.int .i64 7 = .int .i64 n' ∧ Value.slice (some ⟨g1, 0, none⟩) (k + 1 + 6 + 1) cap1 = .slice (some ⟨g', 0, none⟩) (k + 1 + n') cap' ∧ Hid (w1.ownsRow w.heap.size 5 1 (.slice (some ⟨g', 0, none⟩) (k + 1 + n') cap') (k + 1 + n') ((padl N n').map u8v)) ∧ Below w.heap.size w w1 :=
                ⟨6 + 1, g1, cap1, by omega, rfl, rfl, HO1, hb1⟩
              first | exact R | ((repeat apply Exists.intro); exact ⟨R, rfl⟩)
            case measure => simp [intOf]
          · have HC : Hid (_) := one_cell wr ((bits .and .i64 ((s.size : Int) * 8) 255) % 256) (byte_nn _) (byte_lt' _)
            have HX : Hid ((bits .and .i64 ((s.size : Int) * 8) 255) % 256 = ((s.size * 8 / 2 ^ (56 - 8 * 7) % 256 : Nat) : Int)) := (by have h1 := len_byte s.size 1 hs; show _ = _; simpa using h1)
            go_wp2_with (at_builtin; refine wpList_append_own _ rfl _ _ 22 rfl w.heap.size 5 i0 (.int .u8 0) 1 1 Try.underlying22 hi hz0 hz1 hz2 rfl (by decide) _ _ _ rfl (HO.out.alloc _) ⟨wr.heap.size, 0, none⟩ 1 1 ([UInt8.ofNat ((bits .and .i64 ((s.size : Int) * 8) 255) % 256).toNat].map u8v) rfl rfl HC (u8v_one _) (by unfold maxLen; omega) (by omega) (by simp; omega) ?_)
            intro v' w1 hown' hgrow _
            obtain ⟨g1, cap1, rfl⟩ := row_form hown'
            have HO1 : Hid (w1.ownsRow w.heap.size 5 1 (.slice (some ⟨g1, 0, none⟩) (k + 1 + (7 + 1)) cap1) (k + 1 + (7 + 1)) ((padl N (7 + 1)).map u8v)) := by rw [hN]; exact own_len HX.out hown'
            have hb1 : Below w.heap.size w w1 := (hb.alloc hsz _).grown hgrow (by simp; omega) (fun j hj => (HO.out.lt j hj).1)
            clear hown' hgrow HC HX
            go_wp2
            go_roundw
            case rel =>
              have R : ∃ n' g' cap' : Nat, n' ≤ 8 ∧ Value.int .i64 8 = .int .i64 n' ∧ Value.slice (some ⟨g1, 0, none⟩) (k + 1 + 7 + 1) cap1 = .slice (some ⟨g', 0, none⟩) (k + 1 + n') cap' ∧ Hid (w1.ownsRow w.heap.size 5 1 (.slice (some ⟨g', 0, none⟩) (k + 1 + n') cap') (k + 1 + n') ((padl N n').map u8v)) ∧ Below w.heap.size w w1 :=
                ⟨7 + 1, g1, cap1, by omega, rfl, rfl, HO1, hb1⟩
              first | exact R | ((repeat apply Exists.intro); exact ⟨R, rfl⟩)
            case measure => simp [intOf]
        · obtain rfl : n = 8 := by omega
          have hcv := run_str_own (P := Try.prog) wr 22 9 5 Try.underlying22 Try.underlying5 Try.underlying9 _ _ _ _ HO.out
          obtain ⟨p8, hp8⟩ : ∃ p : ByteArray, p = ⟨(padl N 8).toArray⟩ := ⟨_, rfl⟩
          rw [← hp8] at hcv
          have hps : p8.size ≤ 72 := by
            rw [hp8]
            show (padl N 8).toArray.size ≤ 72
            rw [List.size_toArray, length_padl, ← HZ.out]; omega
          have HTL : Hid ((s ++ p8).data.toList = text s.data.toList) := by
            show _ = _
            rw [hp8, text, Array.length_toList, show s.data.size = N from hN.symm]
            simp
          have HP8 : Hid (p8 = ⟨(padl N 8).toArray⟩) := hp8
          clear hn hlt hp8
          go_wp2_with fail
          refine (spec_keys _).mono ?_
          rintro e w2 ⟨rfl, hrow, hbk⟩
          have hrow' : w2.heap[(wr.alloc hobj).heap.size]? = some (.cells (keys.map iv).toArray 3 (0, 0)) := hrow
          have hbk' : Below (wr.alloc hobj).heap.size (wr.alloc hobj) w2 := hbk
          have hgk : (wr.alloc hobj).heap.size = wr.heap.size + 1 := by simp
          have HK : Hid (w2.ownsRow w.heap.size 3 1 (.slice (some ⟨wr.heap.size + 1, 0, none⟩) 64 64) 64 (keys.map iv)) := own_row (by rw [← hgk]; exact hrow') length_keys (by omega) (by decide)
          have HH : Hid (w2.ownsRow w.heap.size 3 1 (.slice (some ⟨wr.heap.size, 0, none⟩) 8 8) 8 (h0.l.map iv)) := own_below (own_h0 hsz) hbk'
          have hb2 : Below w.heap.size w w2 := (hb.alloc hsz hobj).trans (hbk'.mono (by rw [hgk]; omega))
          have hst : (s ++ p8).size = s.size + p8.size := ByteArray.size_append
          have hs2 : (s ++ p8).size ≤ 1099511628000 := by omega
          obtain ⟨M, hM⟩ : ∃ M, M = (s ++ p8).size / 64 := ⟨_, rfl⟩
          have hM64 : (s ++ p8).size = 64 * M := by
            have h1 := length_text s.data.toList
            rw [← HTL.out, Array.length_toList] at h1
            rw [hM]; exact h1
          have HM : Hid (M = (text s.data.toList).length / 64) := by
            show _ = _
            rw [← HTL.out, Array.length_toList]; exact hM
          obtain ⟨gk, hgke⟩ : ∃ gk, gk = wr.heap.size + 1 := ⟨_, rfl⟩
          rw [← hgke] at HK
          clear hrow hbk hrow' hbk' hgk hM hst hcv HO hb hsz HP8 hps hN HZ hzl
          go_wp2
          rw [← hgke]
          generalize hT : s ++ p8 = T at HTL hs2 hM64 ⊢
          clear hT hgke
          have HM64 : Hid (T.size = 64 * M) := hM64
          have hMb : M ≤ 17179869188 := by omega
          clear hM64
          go_loopw [7, 9] (fun hv a wr => ∃ q g cap : Nat, q ≤ M ∧ a = .int .i64 (64 * (q : Int)) ∧ hv = .slice (some ⟨g, 0, none⟩) 8 cap ∧ Hid (wr.ownsRow w.heap.size 3 1 (.slice (some ⟨g, 0, none⟩) 8 cap) 8 ((blks T.data.toList q).l.map iv)) ∧ Hid (wr.ownsRow w.heap.size 3 1 (.slice (some ⟨gk, 0, none⟩) 64 64) 64 (keys.map iv)) ∧ Below w.heap.size w wr) (fun _ a _ => 64 * M - (intOf a).toNat)
          case atStart => exact ⟨0, _, _, by omega, rfl, rfl, HH, HK, hb2⟩
          case round =>
            clear HH HK hb2
            obtain ⟨q, g3, cap3, hq, rfl, rfl, HH, HK, hb⟩ := hrel
            by_cases hlt : q < M
            · have b1 : 64 * (q : Int) < (T.size : Int) := by have := HM64.out; omega
              have b2 : 64 * (q : Int) + 64 ≤ (T.size : Int) := by have := HM64.out; omega
              have b3 : 0 ≤ 64 * (q : Int) := by omega
              have HTS : Hid ((T.extract (64 * q) (64 * q + 64)).size = 64) := sub_size T _ _ (by omega)
              have HBL : Hid (blk (blks T.data.toList q) (T.extract (64 * q) (64 * q + 64)).data.toList = blks T.data.toList (q + 1)) := by
                show _ = _
                rw [sub_list]; rfl
              go_wp2_with fail
              refine (spec_block g3 cap3 gk 64 w.heap.size _ _ wr HTS.out (blks_lt _ q) HH.out HK.out).mono ?_
              rintro e w3 ⟨g4, cap4, rfl, hown, hbb⟩
              have hsz : w.heap.size ≤ wr.heap.size := hb.size
              have HH3 : Hid (w3.ownsRow w.heap.size 3 1 (.slice (some ⟨g4, 0, none⟩) 8 cap4) 8 ((blks T.data.toList (q + 1)).l.map iv)) := by
                rw [← HBL.out]; exact own_mono hown hsz
              have HK3 : Hid (w3.ownsRow w.heap.size 3 1 (.slice (some ⟨gk, 0, none⟩) 64 64) 64 (keys.map iv)) := own_below HK.out hbb
              have hb3 : Below w.heap.size w w3 := hb.trans (hbb.mono hsz)
              clear hown hbb HH HK hb HBL HTS
              go_wp2
              go_roundw
              case rel =>
                have R : ∃ q' g cap : Nat, q' ≤ M ∧ Value.int .i64 (64 * (q : Int) + 64) = .int .i64 (64 * (q' : Int)) ∧ Value.slice (some ⟨g4, 0, none⟩) 8 cap4 = .slice (some ⟨g, 0, none⟩) 8 cap ∧ Hid (w3.ownsRow w.heap.size 3 1 (.slice (some ⟨g, 0, none⟩) 8 cap) 8 ((blks T.data.toList q').l.map iv)) ∧ Hid (w3.ownsRow w.heap.size 3 1 (.slice (some ⟨gk, 0, none⟩) 64 64) 64 (keys.map iv)) ∧ Below w.heap.size w w3 :=
                  ⟨q + 1, g4, cap4, by omega, by go_num, rfl, HH3, HK3, hb3⟩
                first | exact R | ((repeat apply Exists.intro); exact ⟨R, rfl⟩)
              case measure => simp [intOf]; omega
            · obtain rfl : q = M := by omega
              obtain ⟨Vl, hVl⟩ : ∃ Vl, Vl = (blks T.data.toList q).l := ⟨_, rfl⟩
              have HVL : Hid (Vl = (blks T.data.toList q).l) := hVl
              have HVB : Hid (∀ x ∈ Vl, x < 4294967296) := by rw [hVl]; exact lt_all (blks_lt _ q)
              have HLN : Hid (Vl.length = 8) := by rw [hVl]; exact rfl
              rw [← hVl] at HH
              have hsz : w.heap.size ≤ wr.heap.size := hb.size
              have HE : Hid ((wr.alloc (.cells #[] 5)).ownsRow w.heap.size 5 1 (.slice (some ⟨wr.heap.size, 0, none⟩) 0 0) (4 * 0) ((outl (Vl.take 0)).map u8v)) := World.ownsRow_made wr #[] 0 hsz (by decide) rfl
              have HH1 : Hid ((wr.alloc (.cells #[] 5)).ownsRow w.heap.size 3 1 (.slice (some ⟨g3, 0, none⟩) 8 cap3) 8 (Vl.map iv)) := HH.out.alloc _
              have hb1 : Below w.heap.size w (wr.alloc (.cells #[] 5)) := hb.alloc hsz _
              have hne : (wr.heap.size : Nat) ≠ g3 := Nat.ne_of_gt (show g3 < wr.heap.size from (HH.out.lt _ rfl).2)
              have hbd : ¬ 64 * (q : Int) < (T.size : Int) := by have := HM64.out; omega
              clear HK HH hb hsz hVl hlt
              go_wp2
              clear hbd
              go_loopw [10, 11] (fun o_ i wr => ∃ (n : Nat) (o : Value), o_ = o ∧ n ≤ 8 ∧ i = .int .i64 n ∧ o.ownBlock ≠ some g3 ∧ Hid (wr.ownsRow w.heap.size 5 1 o (4 * n) ((outl (Vl.take n)).map u8v)) ∧ Hid (wr.ownsRow w.heap.size 3 1 (.slice (some ⟨g3, 0, none⟩) 8 cap3) 8 (Vl.map iv)) ∧ Below w.heap.size w wr) (fun _ i _ => 8 - (intOf i).toNat)
              case atStart => exact ⟨0, _, rfl, by omega, rfl, fun e => hne (Option.some.inj e), HE, HH1, hb1⟩
              case round =>
                clear HE HH1 hb1 hne
                obtain ⟨n, o, rfl, hn, rfl, hne, HW, HO, hb⟩ := hrel
                by_cases hlt : n < 8
                · obtain ⟨x, hx, cx, XX⟩ := row_read HO.out HVB.out n hlt
                  have bn : (n : Int) < 8 := by omega
                  have hsz : w.heap.size ≤ wr.heap.size := hb.size
                  have hg3 : g3 < wr.heap.size := (HO.out.lt _ rfl).2
                  obtain ⟨y1, hy1⟩ : ∃ y, y = UInt8.ofNat (x / 16777216) := ⟨_, rfl⟩
                  obtain ⟨y2, hy2⟩ : ∃ y, y = UInt8.ofNat (x / 65536 % 256) := ⟨_, rfl⟩
                  obtain ⟨y3, hy3⟩ : ∃ y, y = UInt8.ofNat (x / 256 % 256) := ⟨_, rfl⟩
                  obtain ⟨y4, hy4⟩ : ∃ y, y = UInt8.ofNat (x % 256) := ⟨_, rfl⟩
                  have E1 : (x : Int) / 16777216 = (y1.toNat : Int) := by rw [hy1, of_small _ (by omega)]; omega
                  have E2 : bits .and .i64 ((x : Int) / 65536) 255 = (y2.toNat : Int) := by
                    rw [hy2, show (x : Int) / 65536 = ((x / 65536 : Nat) : Int) from by omega]; exact and255 _ (by omega)
                  have E3 : bits .and .i64 ((x : Int) / 256) 255 = (y3.toNat : Int) := by
                    rw [hy3, show (x : Int) / 256 = ((x / 256 : Nat) : Int) from by omega]; exact and255 _ (by omega)
                  have E4 : bits .and .i64 (x : Int) 255 = (y4.toNat : Int) := by rw [hy4]; exact and255 _ (by omega)
                  have u1 := u8_byte y1
                  have u2 := u8_byte y2
                  have u3 := u8_byte y3
                  have u4 := u8_byte y4
                  have HOB : Hid (outb x = [y1, y2, y3, y4]) := by rw [hy1, hy2, hy3, hy4]; exact rfl
                  have hnh : some g3 ≠ _ := fun e => hne e.symm
                  clear hy1 hy2 hy3 hy4
                  go_wp2
                  go_region_held3 (fun W : World => W.cell? ⟨g3, n, none⟩ = some (.int .i64 (x : Int))) (first | exact cx | exact (two_alloc (p := ⟨g3, n, none⟩) (q := ⟨g3, n, none⟩) hg3 hg3 _ ⟨cx, cx⟩).1 | exact (two_grown' hgrow hg3 hg3 hnh hnh ⟨cx, cx⟩).1) ((refine step_append_lies _ rfl _ _ 22 rfl w.heap.size 5 i0 (.int .u8 0) 1 1 Try.underlying22 hi hz0 hz1 hz2 rfl (by decide) _ (4 * n) _ (by rfl) (HW.out.alloc _).drew ⟨wr.heap.size, 0, none⟩ 4 4 ([y1, y2, y3, y4].map u8v) (by rfl) rfl (four_cell wr _ _ _ _) (u8v_one _) (by decide) (by unfold maxLen; omega) (by omega) (by simp; omega) (wr.heap.size + 1) (by simp) ?_; intro gn capn w1 hown' hgrow hat hlt'))
                  all_goals
                    have HW1 : Hid (w1.ownsRow w.heap.size 5 1 (.slice (some ⟨gn, 0, none⟩) (4 * n + 4) capn) (4 * (n + 1)) ((outl (Vl.take (n + 1))).map u8v)) := own_four (by rw [HOB.out]; exact hown') XX.out
                    have HO1 : Hid (w1.ownsRow w.heap.size 3 1 (.slice (some ⟨g3, 0, none⟩) 8 cap3) 8 (Vl.map iv)) := (HO.out.alloc _).drew.kept hgrow (.inr (fun e => hne e.symm))
                    have hb1 : Below w.heap.size w w1 := (hb.alloc hsz _).drew.grown hgrow (by simp; omega) (fun j hj => (HW.out.lt j hj).1)
                    have hne1 : gn ≠ g3 := by
                      rcases hat with hat | hat
                      · intro e; subst e; exact hne hat
                      · omega
                    clear hown' hgrow hat hlt' E1 E2 E3 E4 u1 u2 u3 u4
                    go_wp2
                    go_roundw
                    case rel =>
                      have R : ∃ (n' : Nat) (o : Value), Value.slice (some ⟨gn, 0, none⟩) (4 * n + 4) capn = o ∧ n' ≤ 8 ∧ Value.int .i64 ((n : Int) + 1) = .int .i64 n' ∧ o.ownBlock ≠ some g3 ∧ Hid (w1.ownsRow w.heap.size 5 1 o (4 * n') ((outl (Vl.take n')).map u8v)) ∧ Hid (w1.ownsRow w.heap.size 3 1 (.slice (some ⟨g3, 0, none⟩) 8 cap3) 8 (Vl.map iv)) ∧ Below w.heap.size w w1 :=
                        ⟨n + 1, _, rfl, by omega, by go_num, fun e => hne1 (Option.some.inj e), HW1, HO1, hb1⟩
                      first | exact R | ((repeat apply Exists.intro); exact ⟨R, rfl⟩)
                    case measure => simp [intOf]; omega
                · obtain rfl : n = 8 := by omega
                  have hcv := run_str_own (P := Try.prog) wr 22 9 5 Try.underlying22 Try.underlying5 Try.underlying9 _ _ _ _ HW.out
                  obtain ⟨p9, hp9⟩ : ∃ p : ByteArray, p = ⟨(outl (Vl.take 8)).toArray⟩ := ⟨_, rfl⟩
                  rw [← hp9] at hcv
                  have HP9 : Hid (p9 = ⟨(shal s.data.toList).toArray⟩) := by
                    show _ = _
                    rw [hp9, List.take_of_length_le (by have := HLN.out; omega), HVL.out, HTL.out, HM.out]; rfl
                  clear hp9
                  go_wp2
                  go_ret
                  exact ⟨by rw [← HP9.out]; rfl, hb⟩
end Go.Proofs.Ytmjlpdmdpagggaa
