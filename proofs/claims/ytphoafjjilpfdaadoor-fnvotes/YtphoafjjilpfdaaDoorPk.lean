/- What the claims of chapter 8 share: a vote that came in; the table as it is laid. -/
import Derived.Test.YtphoafjjilpfdaaDoorRows
import Derived.Test.YtphoafjjilpfdaaDoorCards
import Derived.Test.YtphoafjjilpfdaaDoorTie
import Derived.Test.YtphoafjjilpfdaaDoorIsf
import Derived.Test.YtphoafjjilpfdaaDoorVo
import Derived.Below
import Derived.WalkKit
import Derived.ProofKit
import Derived.OpenShut
import Derived.ShutString
import Derived.ChangeOld
import Derived.OpenVars
import Derived.LaidMore
import Derived.Stop.Joined
import Derived.SevenTiedAt
namespace Go.Proofs.YtphoafjjilpfdaaDoor
open Go.ChangeShapes Go.WideShapes Go.ChangeAt Go.RowKit
open Num
set_option linter.unusedVariables false
theorem own : ownKnob Tryd.prog.godebug = none := by kernel_rfl
theorem laidOut : laidOutB Tryd.prog = true := by kernel_rfl
theorem some_at {α : Type} {l : List α} {n i : Nat} (h : l.length = n) (hi : i < n) : ∃ y, l[i]? = some y := ⟨l[i], List.getElem?_eq_getElem (by omega)⟩
/-- A vote that came in. -/
theorem open_vote {E : Type} {enc : TypeId × Value → E} {W : World} {base : Nat} {v0 : Value} {d0 : DataW E} {p0 : List MemPlace}
    (hval : Value.okWide Tryd.prog W .any base 32 v0) (h0 : DataW.Trod enc Tryd.prog W 0 (fun _ => true) true 32 v0 d0 p0) : ∃ x : Vt, v0 = tV x ∧ x.i.size ≤ maxLen := by
  obtain ⟨cs, rfl, hsz⟩ := okWide_struct Tryd.underlying32 hval
  obtain ⟨fuel, hf⟩ := h0
  obtain ⟨xs, n, _, _, hl, hlen, hx⟩ := DataW.trod_struct Tryd.underlying32 hf
  have hc : (Value.agg cs).cells.toList = cs.toList := rfl
  rw [hc] at hx hl
  have cn : Tryd.prog.cellsOf 32 = 5 := by kernel_rfl
  have c3 : Tryd.prog.cellsOf 3 = 1 := by kernel_rfl
  have c9 : Tryd.prog.cellsOf 9 = 1 := by kernel_rfl
  rw [cn] at hsz
  have hlen' : xs.length = 5 := hlen
  obtain ⟨y0, e0⟩ := some_at hlen' (show 0 < 5 by omega)
  obtain ⟨y1, e1⟩ := some_at hlen' (show 1 < 5 by omega)
  obtain ⟨y2, e2⟩ := some_at hlen' (show 2 < 5 by omega)
  obtain ⟨y3, e3⟩ := some_at hlen' (show 3 < 5 by omega)
  obtain ⟨y4, e4⟩ := some_at hlen' (show 4 < 5 by omega)
  obtain ⟨z0, k0, _, _⟩ := DataW.trod_int Tryd.underlying3 ((hx 0 _ rfl).trans e0)
  obtain ⟨z1, k1, _, _⟩ := DataW.trod_int Tryd.underlying3 ((hx 1 _ rfl).trans e1)
  obtain ⟨z2, k2, _, _⟩ := DataW.trod_int Tryd.underlying3 ((hx 2 _ rfl).trans e2)
  obtain ⟨z3, k3, _, m3⟩ := DataW.trod_string Tryd.underlying9 ((hx 3 _ rfl).trans e3)
  obtain ⟨z4, k4, _, _⟩ := DataW.trod_int Tryd.underlying3 ((hx 4 _ rfl).trans e4)
  replace k0 : List.take (Tryd.prog.cellsOf 3) (List.drop 0 cs.toList) = [.int .i64 z0] := k0
  rw [c3] at k0
  replace k1 : List.take (Tryd.prog.cellsOf 3) (List.drop 1 cs.toList) = [.int .i64 z1] := k1
  rw [c3] at k1
  replace k2 : List.take (Tryd.prog.cellsOf 3) (List.drop 2 cs.toList) = [.int .i64 z2] := k2
  rw [c3] at k2
  replace k3 : List.take (Tryd.prog.cellsOf 9) (List.drop 3 cs.toList) = [.string z3] := k3
  rw [c9] at k3
  replace k4 : List.take (Tryd.prog.cellsOf 3) (List.drop 4 cs.toList) = [.int .i64 z4] := k4
  rw [c3] at k4
  refine ⟨⟨z0, z1, z2, z3, z4⟩, ?_, m3⟩
  obtain ⟨l⟩ := cs
  have hl6 : l.length = 5 := by simpa using hsz
  match l, hl6 with
  | [q0, q1, q2, q3, q4], _ =>
    simp at k0 k1 k2 k3 k4
    subst k0 k1 k2 k3 k4
    rfl
def tab64 : List Int := [1116352408, 1899447441, 3049323471, 3921009573, 961987163, 1508970993, 2453635748, 2870763221, 3624381080, 310598401, 607225278, 1426881987, 1925078388, 2162078206, 2614888103, 3248222580, 3835390401, 4022224774, 264347078, 604807628, 770255983, 1249150122, 1555081692, 1996064986, 2554220882, 2821834349, 2952996808, 3210313671, 3336571891, 3584528711, 113926993, 338241895, 666307205, 773529912, 1294757372, 1396182291, 1695183700, 1986661051, 2177026350, 2456956037, 2730485921, 2820302411, 3259730800, 3345764771, 3516065817, 3600352804, 4094571909, 275423344, 430227734, 506948616, 659060556, 883997877, 958139571, 1322822218, 1537002063, 1747873779, 1955562222, 2024104815, 2227730452, 2361852424, 2428436474, 2756734187, 3204031479, 3329325298]
theorem tab_at : ∀ i : Fin 64, tab64.getD i.val 0 = ((keys.getD i.val 0 : Nat) : Int) := by decide
theorem tab_of {w : World} (h : Lib.TabIs Tryd.prog w "loop.example/g00946/impl.shaOfRound" .u32 tab64) : Tab w := by
  intro i hi
  rw [h.cell gTab i (by simpa [tab64] using hi), tab_at ⟨i, hi⟩]
theorem gTabType : (Tryd.prog.globals[0]?).map (·.type) = some 68 := by kernel_rfl
theorem cells_word : Tryd.prog.cellsOf 60 = 1 := by kernel_rfl
theorem cells_table : Tryd.prog.cellsOf 68 = 64 := by kernel_rfl
theorem tab_keeps {w : World} (h : Tab w) : ∀ W, Below w.heap.size w W → Tab W := fun W hb => h.below hb h.pos
theorem reach_le {n : Nat} (h : n ≤ reachBytes) : n ≤ 140737488355328 := Nat.le_trans h (by decide)
end Go.Proofs.YtphoafjjilpfdaaDoor
