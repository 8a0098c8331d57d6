/- What spec.DrawSha, laws.big and laws.at answer. Old memory stays. Conditions: a code of at most 1048576 bytes. -/
import Derived.Test.YtddkehbekoogpaaDoorCur4
namespace Go.Proofs.YtddkehbekoogpaaDoor
open Go.RowKit
open Num
set_option linter.unusedVariables false
theorem new_cur (a : Option Addr) (L : List UInt8) (cap : Nat) (w : World) : CurAt (w.alloc (.cells #[.slice a L.length cap, .int .i64 0, .int .i64 (newF L)] 41)) w.heap.size a L.length cap ⟨0, newF L⟩ := heap_alloc_new w _
theorem new_code {a : Option Addr} {L : List UInt8} {w : World} (o : Obj) (h : CodeAt w w.heap.size a L) : CodeAt (w.alloc o) w.heap.size a L := CodeAt.kept h (grown_alloc (grown_refl _ _) _)
theorem below_new {w w' : World} (o : Obj) (h : (w.alloc o).grownBy w' (some w.heap.size)) : Below w.heap.size w w' :=
  ((Below.refl _ _).alloc (Nat.le_refl _) o).trans (below_grownBy h (by simp) (Nat.le_refl _))
theorem code_below {w w' : World} {a : Option Addr} {L : List UInt8} (h : CodeAt w w.heap.size a L) (hb : Below w.heap.size w w') : CodeAt w' w'.heap.size a L := by
  intro j hj
  obtain ⟨b, off, ha, hne, hc⟩ := h j hj
  have hlt : b < w.heap.size := World.block_lt_of_cell? w _ hc
  exact ⟨b, off, ha, by have := hb.size; omega, by rw [hb.cell (p := ⟨b, off + j, none⟩) hlt]; exact hc⟩
theorem size_mk (l : List UInt8) : (⟨l.toArray⟩ : ByteArray).size = l.length := List.size_toArray
def st0 (L : List UInt8) : St := ⟨0, newF L⟩
/-- The first text, and what stands behind it. -/
def ds1 (L : List UInt8) : List UInt8 := (textP L (st0 L) 70).1
def dsn (L : List UInt8) : St := (textP L (st0 L) 70).2
def ds2 (L : List UInt8) : List UInt8 := (textP L (belowN L (dsn L) 6) 70).1
def drawSha (L : List UInt8) : ByteArray := if belowV L (dsn L) 6 = 0 then ⟨(ds1 L).toArray⟩ ++ ⟨(ds2 L).toArray⟩ else ⟨(ds1 L).toArray⟩
theorem size_drawSha (L : List UInt8) : (drawSha L).size ≤ 140 := by
  have h1 := length_textP L (st0 L) 70 (by omega)
  have h2 := length_textP L (belowN L (dsn L) 6) 70 (by omega)
  have e1 : (⟨(ds1 L).toArray⟩ : ByteArray).size = (ds1 L).length := size_mk _
  have e2 : (⟨(ds2 L).toArray⟩ : ByteArray).size = (ds2 L).length := size_mk _
  unfold drawSha
  split
  · rw [ByteArray.size_append, e1, e2]; unfold ds1 ds2; omega
  · rw [e1]; unfold ds1; omega
set_option maxHeartbeats 400000 in
theorem drawSha_any (a : Option Addr) (L : List UInt8) (cap : Nat) (w : World) (hl : CodeAt w w.heap.size a L) (hlen : L.length ≤ 1048576) :
    Calls Tryd.prog 7 #[.slice a L.length cap] w fun e w' => e = .returned (.string (drawSha L)) ∧ Below w.heap.size w w' := by
  have HL : Hid (CodeAt w w.heap.size a L) := hl
  clear hl
  go_enter Tryd.func7, Tryd.ntmps7
  go_wp2_with fail
  refine (new_any a L cap _ HL.out hlen).mono ?_
  rintro e w1 ⟨rfl, rfl⟩
  have HC1 : Hid (_) := new_cur a L cap w
  have HL1 : Hid (_) := new_code (.cells #[.slice a L.length cap, .int .i64 0, .int .i64 (newF L)] 41) HL.out
  go_wp2_with fail
  refine (text_any w.heap.size a L cap (st0 L) 70 _ HC1.out HL1.out hlen (by omega) (by omega)).mono ?_
  rintro e w2 ⟨rfl, hc2, hg2⟩
  have HC2 : Hid (CurAt w2 w.heap.size a L.length cap (dsn L)) := hc2
  have HL2 : Hid (CodeAt w2 w.heap.size a L) := CodeAt.kept HL1.out hg2
  clear hc2
  go_wp2_with fail
  refine (once_any w.heap.size a L cap (dsn L) 6 _ HC2.out HL2.out hlen).mono ?_
  rintro e w3 ⟨rfl, hc3, hg3⟩
  have HC3 : Hid (CurAt w3 w.heap.size a L.length cap (belowN L (dsn L) 6)) := hc3
  have HL3 : Hid (CodeAt w3 w.heap.size a L) := CodeAt.kept HL2.out hg3
  have hgw := grown_trans hg2 hg3
  clear hc3 hg2 hg3
  by_cases hz : belowV L (dsn L) 6 = 0
  · have hq : (belowV L (dsn L) 6 == 0) = true := by rw [hz]; rfl
    rw [hq]
    have HF : Hid (drawSha L = _) := show drawSha L = ⟨(ds1 L).toArray⟩ ++ ⟨(ds2 L).toArray⟩ by unfold drawSha; rw [if_pos hz]
    clear hz hq
    have hs1 : ((⟨(textP L (st0 L) 70).1.toArray⟩ : ByteArray)).size ≤ 70 := by
      have h2 := length_textP L (st0 L) 70 (by omega)
      rw [size_mk]; omega
    have hs2 : ((⟨(textP L (belowN L (dsn L) 6) 70).1.toArray⟩ : ByteArray)).size ≤ 70 := by
      have h2 := length_textP L (belowN L (dsn L) 6) 70 (by omega)
      rw [size_mk]; omega
    go_wp2_with fail
    refine (text_any w.heap.size a L cap (belowN L (dsn L) 6) 70 _ HC3.out HL3.out hlen (by omega) (by omega)).mono ?_
    rintro e w4 ⟨rfl, _, hg4⟩
    go_wp2
    go_ret
    exact ⟨ret_str HF.out.symm, below_new _ (grown_trans hgw hg4)⟩
  · have HF : Hid (drawSha L = _) := show drawSha L = ⟨(ds1 L).toArray⟩ by unfold drawSha; rw [if_neg hz]
    have hq : (belowV L (dsn L) 6 == 0) = false := by simpa using hz
    rw [hq]
    clear hz hq
    go_wp2
    go_ret
    exact ⟨ret_str HF.out.symm, below_new _ hgw⟩
set_option maxHeartbeats 400000 in
theorem big_any (a : Option Addr) (len cap : Nat) (w : World) (hm : len ≤ 9223372036854775807) :
    Calls Tryd.prog 6 #[.slice a len cap] w fun e w' => e = .returned (.bool (decide ((1048576 : Int) < (len : Int)))) ∧ w' = w := by
  go_enter Tryd.func6, Tryd.ntmps6
  go_wp2
  go_ret
  exact ⟨rfl, rfl⟩
/-- Byte i of a code, or one that follows from it. -/
def atV (L : List UInt8) (i : Nat) : Int := if h : i < L.length then (L[i].toNat : Int) else ((i : Int) * 37 + (L.length : Int) * 11) % 256
theorem atV_bound (L : List UInt8) (i : Nat) : 0 ≤ atV L i ∧ atV L i < 256 := by
  unfold atV
  split
  · have := L[i].toNat_lt; omega
  · omega
set_option maxHeartbeats 400000 in
theorem at_any (a : Option Addr) (L : List UInt8) (cap : Nat) (i : Nat) (w : World) (hl : CodeAt w w.heap.size a L) (hlen : L.length ≤ 1048576) (hi : i ≤ 1000) :
    Calls Tryd.prog 9 #[.slice a L.length cap, .int .i64 (i : Int)] w fun e w' => e = .returned (.int .i64 (atV L i)) ∧ w' = w := by
  by_cases h : i < L.length
  · obtain ⟨b, off, rfl, _, hc⟩ := hl i h
    have HV : Hid (atV L i = (L[i].toNat : Int)) := by show _ = _; unfold atV; rw [dif_pos h]
    obtain ⟨c, hcE⟩ : ∃ c, L[i] = c := ⟨_, rfl⟩
    rw [hcE] at hc HV
    have hb : (c.toNat : Int) < 256 := by have := c.toNat_lt; omega
    have hlt : (i : Int) < (L.length : Int) := by omega
    clear hl hcE h
    go_enter Tryd.func9, Tryd.ntmps9
    go_wp2
    go_ret
    exact ⟨by rw [HV.out]; rfl, rfl⟩
  · have HV : Hid (atV L i = ((i : Int) * 37 + (L.length : Int) * 11) % 256) := by show _ = _; unfold atV; rw [dif_neg h]
    have hlt : ¬ (i : Int) < (L.length : Int) := by omega
    have hm : ((i : Int) * 37 + (L.length : Int) * 11).tmod 256 = ((i : Int) * 37 + (L.length : Int) * 11) % 256 := Int.tmod_eq_emod_of_nonneg (by omega)
    clear hl h
    go_enter Tryd.func9, Tryd.ntmps9
    go_wp2
    go_ret
    exact ⟨by rw [HV.out]; rfl, rfl⟩
theorem at_0 (a : Option Addr) (L : List UInt8) (cap : Nat) (w : World) (hl : CodeAt w w.heap.size a L) (hlen : L.length ≤ 1048576) :
    Calls Tryd.prog 9 #[.slice a L.length cap, .int .i64 0] w fun e w' => e = .returned (.int .i64 (atV L 0)) ∧ w' = w := at_any a L cap 0 w hl hlen (by omega)
theorem at_1 (a : Option Addr) (L : List UInt8) (cap : Nat) (w : World) (hl : CodeAt w w.heap.size a L) (hlen : L.length ≤ 1048576) :
    Calls Tryd.prog 9 #[.slice a L.length cap, .int .i64 1] w fun e w' => e = .returned (.int .i64 (atV L 1)) ∧ w' = w := at_any a L cap 1 w hl hlen (by omega)
end Go.Proofs.YtddkehbekoogpaaDoor
