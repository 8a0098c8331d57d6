/- What the claims of chapter 11 share: what came in, by its cells; the listed variables as they are laid. -/
import Derived.Test.YtajfmjgaaapjeaaDoorRows
import Derived.Test.YtajfmjgaaapjeaaDoorCards
import Derived.Test.YtajfmjgaaapjeaaDoorTie
import Derived.Test.YtajfmjgaaapjeaaDoorIsf
import Derived.Test.YtajfmjgaaapjeaaDoorLa
import Derived.Test.YtajfmjgaaapjeaaDoorVl
import Derived.Test.YtajfmjgaaapjeaaDoorHl
import Derived.Below
import Derived.WalkKit
import Derived.ProofKit
import Derived.OpenShut
import Derived.ShutString
import Derived.ChangeOld
import Derived.Deep.SlicePairs
import Derived.OpenVars
import Derived.LaidMore
import Derived.Stop.Joined
import Derived.SevenTiedAt
namespace Go.Proofs.YtajfmjgaaapjeaaDoor
open Go.ChangeShapes Go.WideShapes Go.ChangeAt Go.RowKit
open Num
set_option linter.unusedVariables false
theorem own : ownKnob Tryd.prog.godebug = none := by kernel_rfl
theorem laidOut : laidOutB Tryd.prog = true := by kernel_rfl
theorem some_at {α : Type} {l : List α} {n i : Nat} (h : l.length = n) (hi : i < n) : ∃ y, l[i]? = some y := ⟨l[i], List.getElem?_eq_getElem (by omega)⟩
theorem add_off (b o j : Nat) : (⟨b, o, none⟩ : Addr).add j = ⟨b, o + j, none⟩ := by
  unfold Addr.add
  by_cases h : j = 0 <;> simp [h]
def tab64 : List Int := [1116352408, 1899447441, 3049323471, 3921009573, 961987163, 1508970993, 2453635748, 2870763221, 3624381080, 310598401, 607225278, 1426881987, 1925078388, 2162078206, 2614888103, 3248222580, 3835390401, 4022224774, 264347078, 604807628, 770255983, 1249150122, 1555081692, 1996064986, 2554220882, 2821834349, 2952996808, 3210313671, 3336571891, 3584528711, 113926993, 338241895, 666307205, 773529912, 1294757372, 1396182291, 1695183700, 1986661051, 2177026350, 2456956037, 2730485921, 2820302411, 3259730800, 3345764771, 3516065817, 3600352804, 4094571909, 275423344, 430227734, 506948616, 659060556, 883997877, 958139571, 1322822218, 1537002063, 1747873779, 1955562222, 2024104815, 2227730452, 2361852424, 2428436474, 2756734187, 3204031479, 3329325298]
theorem tab_at : ∀ i : Fin 64, tab64.getD i.val 0 = ((keys.getD i.val 0 : Nat) : Int) := by decide
theorem tab_of {w : World} (h : Lib.TabIs Tryd.prog w "loop.example/g00946/impl.shaOfRound" .u32 tab64) : Tab w := by
  intro i hi
  rw [h.cell gTab i (by simpa [tab64] using hi), tab_at ⟨i, hi⟩]
theorem gTabType : (Tryd.prog.globals[0]?).map (·.type) = some 66 := by kernel_rfl
theorem cells_word : Tryd.prog.cellsOf 60 = 1 := by kernel_rfl
theorem cells_table : Tryd.prog.cellsOf 66 = 64 := by kernel_rfl
theorem tab_keeps {w : World} (h : Tab w) : ∀ W, Below w.heap.size w W → Tab W := fun W hb => h.below hb h.pos
theorem reach_le {n : Nat} (h : n ≤ reachBytes) : n ≤ 140737488355328 := Nat.le_trans h (by decide)
set_option maxRecDepth 100000 in
/-- A row of validators that came in, none or some. -/
theorem open_row {H : Type} {enc : TypeId × Value → H} {W : World} {fuel : Nat} {cs : List Value} {y : DataW H × List MemPlace}
    (hf : DataW.trod enc Tryd.prog W 0 (fun _ => true) true fuel 24 cs = some y) :
    ∃ (a0 : Option Addr) (cap0 : Nat) (l : List V), cs = [.slice a0 l.length cap0] ∧ VO W a0 l ∧ l.length ≤ 9223372036854775807 := by
  obtain ⟨d, p⟩ := y
  rcases Deep.open_slice_pairs Tryd.underlying24 Tryd.underlying50 (by kernel_rfl) rfl rfl (by kernel_rfl) (by kernel_rfl) hf with ⟨hcs, _⟩ | ⟨x, len, cap, m, n, V0, V1, D0, D1, P0, P1, hcs, _, hl, hm, hmm, _, hx⟩
  · exact ⟨none, 0, [], hcs, .inl rfl, by simp⟩
  · have hmc : m = cap := by simpa using hmm
    subst hmc
    unfold maxLen at hm
    have each : ∀ i, i < m → ∃ v : V, W.cell? (x.add (i * 2)) = some (.int .i64 v.i) ∧ W.cell? (x.add (i * 2 + 1)) = some (.int .i64 v.p) := fun i hi => by
      obtain ⟨h1, h2, h3, h4⟩ := hx i hi
      obtain ⟨y, hy, _, _⟩ := DataW.trod_int Tryd.underlying3 h3
      obtain ⟨z, hz, _, _⟩ := DataW.trod_int Tryd.underlying3 h4
      injection hy with hy _
      injection hz with hz _
      exact ⟨⟨y, z⟩, by rw [h1, hy], by rw [h2, hz]⟩
    have each' : ∀ i, ∃ v : V, i < m → W.cell? (x.add (i * 2)) = some (.int .i64 v.i) ∧ W.cell? (x.add (i * 2 + 1)) = some (.int .i64 v.p) := fun i => by
      by_cases hi : i < m
      · obtain ⟨v, hv⟩ := each i hi; exact ⟨v, fun _ => hv⟩
      · exact ⟨nobody, fun h => absurd h hi⟩
    obtain ⟨f, hf⟩ := Classical.axiomOfChoice each'
    refine ⟨some x, m, (List.range len).map f, by rw [hcs]; simp, ?_, by simp; omega⟩
    by_cases hz : len = 0
    · left; simp [hz]
    · right
      obtain ⟨b, off, spot⟩ := x
      have hspot : spot = none := by
        have := World.cell?_spot (hf 0 (by omega)).1
        simpa [Addr.add] using this
      subst hspot
      refine ⟨b, off, rfl, fun j hj => ?_⟩
      have hj' : j < len := by simpa using hj
      obtain ⟨h1, h2⟩ := hf j (by omega)
      rw [add_off] at h1 h2
      simp only [List.getElem_map, List.getElem_range]
      exact ⟨h1, by rw [Nat.add_assoc]; exact h2⟩
set_option maxRecDepth 100000 in
theorem open_vals {H : Type} {enc : TypeId × Value → H} {W : World} {a0 : Option Addr} {len0 cap0 : Nat} {d0 : DataW H} {p0 : List MemPlace}
    (h0 : DataW.Trod enc Tryd.prog W 0 (fun _ => true) true 24 (.slice a0 len0 cap0) d0 p0) :
    ∃ l : List V, l.length = len0 ∧ VO W a0 l ∧ l.length ≤ 9223372036854775807 := by
  obtain ⟨fuel, hf⟩ := h0
  obtain ⟨a, c, l, h1, h2, h3⟩ := open_row hf
  simp [Value.cells] at h1
  obtain ⟨rfl, rfl, rfl⟩ := h1
  exact ⟨l, rfl, h2, h3⟩
set_option maxRecDepth 100000 in
/-- A header's cells that came in. -/
theorem open_hcells {E : Type} {enc : TypeId × Value → E} {W : World} {fuel : Nat} {cs : List Value} {y : DataW E × List MemPlace}
    (hf : DataW.trod enc Tryd.prog W 0 (fun _ => true) true fuel 23 cs = some y) (hsz : cs.length = 6) : ∃ x : H, cs = [.int .i64 x.h, .int .i64 x.t, .string x.a, .string x.v, .string x.n, .string x.d] ∧ Fits x := by
  obtain ⟨xs, n, _, _, hl, hlen, hx⟩ := DataW.trod_struct Tryd.underlying23 hf
  have c3 : Tryd.prog.cellsOf 3 = 1 := by kernel_rfl
  have c9 : Tryd.prog.cellsOf 9 = 1 := by kernel_rfl
  have hlen' : xs.length = 6 := hlen
  obtain ⟨y0, e0⟩ := some_at hlen' (show 0 < 6 by omega)
  obtain ⟨y1, e1⟩ := some_at hlen' (show 1 < 6 by omega)
  obtain ⟨y2, e2⟩ := some_at hlen' (show 2 < 6 by omega)
  obtain ⟨y3, e3⟩ := some_at hlen' (show 3 < 6 by omega)
  obtain ⟨y4, e4⟩ := some_at hlen' (show 4 < 6 by omega)
  obtain ⟨y5, e5⟩ := some_at hlen' (show 5 < 6 by omega)
  obtain ⟨z0, k0, _, _⟩ := DataW.trod_int Tryd.underlying3 ((hx 0 _ rfl).trans e0)
  obtain ⟨z1, k1, _, _⟩ := DataW.trod_int Tryd.underlying3 ((hx 1 _ rfl).trans e1)
  obtain ⟨z2, k2, _, m2⟩ := DataW.trod_string Tryd.underlying9 ((hx 2 _ rfl).trans e2)
  obtain ⟨z3, k3, _, m3⟩ := DataW.trod_string Tryd.underlying9 ((hx 3 _ rfl).trans e3)
  obtain ⟨z4, k4, _, m4⟩ := DataW.trod_string Tryd.underlying9 ((hx 4 _ rfl).trans e4)
  obtain ⟨z5, k5, _, m5⟩ := DataW.trod_string Tryd.underlying9 ((hx 5 _ rfl).trans e5)
  replace k0 : List.take (Tryd.prog.cellsOf 3) (List.drop 0 cs) = [.int .i64 z0] := k0
  rw [c3] at k0
  replace k1 : List.take (Tryd.prog.cellsOf 3) (List.drop 1 cs) = [.int .i64 z1] := k1
  rw [c3] at k1
  replace k2 : List.take (Tryd.prog.cellsOf 9) (List.drop 2 cs) = [.string z2] := k2
  rw [c9] at k2
  replace k3 : List.take (Tryd.prog.cellsOf 9) (List.drop 3 cs) = [.string z3] := k3
  rw [c9] at k3
  replace k4 : List.take (Tryd.prog.cellsOf 9) (List.drop 4 cs) = [.string z4] := k4
  rw [c9] at k4
  replace k5 : List.take (Tryd.prog.cellsOf 9) (List.drop 5 cs) = [.string z5] := k5
  rw [c9] at k5
  refine ⟨⟨z0, z1, z2, z3, z4, z5⟩, ?_, m2, m3, m4, m5⟩
  match cs, hsz with
  | [q0, q1, q2, q3, q4, q5], _ =>
    simp at k0 k1 k2 k3 k4 k5
    subst k0 k1 k2 k3 k4 k5
    rfl
set_option maxRecDepth 100000 in
theorem open_head {E : Type} {enc : TypeId × Value → E} {W : World} {base : Nat} {v0 : Value} {d0 : DataW E} {p0 : List MemPlace}
    (hval : Value.okWide Tryd.prog W .any base 23 v0) (h0 : DataW.Trod enc Tryd.prog W 0 (fun _ => true) true 23 v0 d0 p0) : ∃ x : H, v0 = hV x ∧ Fits x := by
  obtain ⟨cs, rfl, hsz⟩ := okWide_struct Tryd.underlying23 hval
  obtain ⟨fuel, hf⟩ := h0
  have c6 : Tryd.prog.cellsOf 23 = 6 := by kernel_rfl
  rw [c6] at hsz
  obtain ⟨x, hx, hfit⟩ := open_hcells hf (show cs.toList.length = 6 by simpa using hsz)
  refine ⟨x, ?_, hfit⟩
  obtain ⟨l⟩ := cs
  have : l = _ := hx
  rw [this]
  rfl
set_option maxRecDepth 100000 in
/-- An anchor that came in. -/
theorem open_anchor {E : Type} {enc : TypeId × Value → E} {W : World} {base : Nat} {v0 : Value} {d0 : DataW E} {p0 : List MemPlace}
    (hval : Value.okWide Tryd.prog W .any base 26 v0) (h0 : DataW.Trod enc Tryd.prog W 0 (fun _ => true) true 26 v0 d0 p0) : ∃ (x : H) (l : List V) (a : Option Addr) (cap : Nat), v0 = aV x (.slice a l.length cap) ∧ Fits x ∧ VO W a l ∧ l.length ≤ 9223372036854775807 := by
  obtain ⟨cs, rfl, hsz⟩ := okWide_struct Tryd.underlying26 hval
  obtain ⟨fuel, hf⟩ := h0
  obtain ⟨xs, n, _, _, hl, hlen, hx⟩ := DataW.trod_struct Tryd.underlying26 hf
  have hc : (Value.agg cs).cells.toList = cs.toList := rfl
  rw [hc] at hx hl
  have cn : Tryd.prog.cellsOf 26 = 7 := by kernel_rfl
  have c6 : Tryd.prog.cellsOf 23 = 6 := by kernel_rfl
  have cl : Tryd.prog.cellsOf 24 = 1 := by kernel_rfl
  rw [cn] at hsz
  have hlen' : xs.length = 2 := hlen
  obtain ⟨y0, e0⟩ := some_at hlen' (show 0 < 2 by omega)
  obtain ⟨y1, e1⟩ := some_at hlen' (show 1 < 2 by omega)
  have g0 := (hx 0 _ rfl).trans e0
  have g1 := (hx 1 _ rfl).trans e1
  obtain ⟨l⟩ := cs
  have hl7 : l.length = 7 := by simpa using hsz
  match l, hl7 with
  | [q0, q1, q2, q3, q4, q5, q6], _ =>
    obtain ⟨x, k0, hfit⟩ := open_hcells g0 (by show (List.take (Tryd.prog.cellsOf 23) _).length = 6; rw [c6]; rfl)
    obtain ⟨a, cap, r, k1, hv, hr⟩ := open_row g1
    replace k0 : List.take (Tryd.prog.cellsOf 23) (List.drop 0 [q0, q1, q2, q3, q4, q5, q6]) = [.int .i64 x.h, .int .i64 x.t, .string x.a, .string x.v, .string x.n, .string x.d] := k0
    rw [c6] at k0
    replace k1 : List.take (Tryd.prog.cellsOf 24) (List.drop (Tryd.prog.cellsOf 23) [q0, q1, q2, q3, q4, q5, q6]) = [.slice a r.length cap] := k1
    rw [cl, c6] at k1
    simp at k0 k1
    obtain ⟨rfl, rfl, rfl, rfl, rfl, rfl⟩ := k0
    subst k1
    exact ⟨x, r, a, cap, rfl, hfit, hv, hr⟩
end Go.Proofs.YtajfmjgaaapjeaaDoor
