/- What the claims of chapter 11 share: what came in, by its cells; the listed variables as they are laid. -/
import Derived.Test.YtajfmjgaaapjeaaGreatDoorRows
import Derived.Test.YtajfmjgaaapjeaaGreatDoorCards
import Derived.Test.YtajfmjgaaapjeaaGreatDoorTie
import Derived.Test.YtajfmjgaaapjeaaGreatDoorIsf
import Derived.Test.YtajfmjgaaapjeaaGreatDoorLa
import Derived.Test.YtajfmjgaaapjeaaGreatDoorLc
import Derived.Test.YtajfmjgaaapjeaaGreatDoorTr
import Derived.Test.YtajfmjgaaapjeaaGreatDoorVl
import Derived.Test.YtajfmjgaaapjeaaGreatDoorG9
import Derived.Below
import Derived.WalkKit
import Derived.ProofKit
import Derived.OpenShut
import Derived.ShutString
import Derived.ChangeOld
import Derived.Deep.SlicePairs
import Derived.OpenVars
import Derived.LaidMore
import Derived.LaidHandle
import Derived.Stop.Joined
import Derived.SevenTiedAt
namespace Go.Proofs.YtajfmjgaaapjeaaGreatDoor
open Go.ChangeShapes Go.WideShapes Go.ChangeAt Go.RowKit
open Num
set_option linter.unusedVariables false
theorem own : ownKnob Tryz.prog.godebug = none := by kernel_rfl
theorem laidOut : laidOutB Tryz.prog = true := by kernel_rfl
theorem some_at {α : Type} {l : List α} {n i : Nat} (h : l.length = n) (hi : i < n) : ∃ y, l[i]? = some y := ⟨l[i], List.getElem?_eq_getElem (by omega)⟩
theorem add_off (b o j : Nat) : (⟨b, o, none⟩ : Addr).add j = ⟨b, o + j, none⟩ := by
  unfold Addr.add
  by_cases h : j = 0 <;> simp [h]
set_option maxRecDepth 100000 in
/-- A row of signatures that came in, none or some. -/
theorem open_sgs {H : Type} {enc : TypeId × Value → H} {W : World} {fuel : Nat} {cs : List Value} {y : DataW H × List MemPlace}
    (hf : DataW.trod enc Tryz.prog W 0 (fun _ => true) true fuel 49 cs = some y) :
    ∃ (a : Option Addr) (cap : Nat) (l : List Sg), cs = [.slice a l.length cap] ∧ SO W a l ∧ l.length ≤ 9223372036854775807 ∧ ∀ z ∈ l, z.s.size ≤ 9223372036854775807 := by
  obtain ⟨d, p⟩ := y
  rcases Deep.open_slice_pairs Tryz.underlying49 Tryz.underlying127 (by kernel_rfl) rfl rfl (by kernel_rfl) (by kernel_rfl) hf with ⟨hcs, _⟩ | ⟨x, len, cap, m, n, V0, V1, D0, D1, P0, P1, hcs, _, hl, hm, hmm, _, hx⟩
  · exact ⟨none, 0, [], hcs, .inl rfl, by simp, fun z hz => by cases hz⟩
  · have hmc : m = cap := by simpa using hmm
    subst hmc
    unfold maxLen at hm
    have each : ∀ i, i < m → ∃ v : Sg, W.cell? (x.add (i * 2)) = some (.int .i64 v.v) ∧ W.cell? (x.add (i * 2 + 1)) = some (.string v.s) ∧ v.s.size ≤ 9223372036854775807 := fun i hi => by
      obtain ⟨h1, h2, h3, h4⟩ := hx i hi
      obtain ⟨y, hy, _, _⟩ := DataW.trod_int Tryz.underlying3 h3
      obtain ⟨z, hz, _, hm⟩ := DataW.trod_string Tryz.underlying9 h4
      injection hy with hy _
      injection hz with hz _
      exact ⟨⟨y, z⟩, by rw [h1, hy], by rw [h2, hz], hm⟩
    have each' : ∀ i, ∃ v : Sg, i < m → W.cell? (x.add (i * 2)) = some (.int .i64 v.v) ∧ W.cell? (x.add (i * 2 + 1)) = some (.string v.s) ∧ v.s.size ≤ 9223372036854775807 := fun i => by
      by_cases hi : i < m
      · obtain ⟨v, hv⟩ := each i hi; exact ⟨v, fun _ => hv⟩
      · exact ⟨⟨0, ⟨#[]⟩⟩, fun h => absurd h hi⟩
    obtain ⟨f, hf⟩ := Classical.axiomOfChoice each'
    refine ⟨some x, m, (List.range len).map f, by rw [hcs]; simp, ?_, by simp; omega, fun z hz => ?_⟩
    · by_cases hz : len = 0
      · left; simp [hz]
      · right
        obtain ⟨b, off, spot⟩ := x
        have hspot : spot = none := by
          have := World.cell?_spot (hf 0 (by omega)).1
          simpa [Addr.add] using this
        subst hspot
        refine ⟨b, off, rfl, fun j hj => ?_⟩
        have hj' : j < len := by simpa using hj
        obtain ⟨h1, h2, _⟩ := hf j (by omega)
        rw [add_off] at h1 h2
        simp only [List.getElem_map, List.getElem_range]
        exact ⟨h1, by rw [Nat.add_assoc]; exact h2⟩
    · obtain ⟨i, hi, rfl⟩ := List.mem_map.1 hz
      exact (hf i (by have := List.mem_range.1 hi; omega)).2.2
set_option maxRecDepth 100000 in
/-- A commit that came in. -/
theorem open_com {E : Type} {enc : TypeId × Value → E} {W : World} {base : Nat} {v0 : Value} {d0 : DataW E} {p0 : List MemPlace}
    (hval : Value.okWide Tryz.prog W .any base 51 v0) (h0 : DataW.Trod enc Tryz.prog W 0 (fun _ => true) true 51 v0 d0 p0) : ∃ (x : Ct) (a : Option Addr) (cap : Nat), v0 = cV x a cap ∧ SO W a x.l ∧ SzOk x := by
  obtain ⟨cs, rfl, hsz⟩ := okWide_struct Tryz.underlying51 hval
  obtain ⟨fuel, hf⟩ := h0
  obtain ⟨xs, n, _, _, hl, hlen, hx⟩ := DataW.trod_struct Tryz.underlying51 hf
  have hc : (Value.agg cs).cells.toList = cs.toList := rfl
  rw [hc] at hx hl
  have cn : Tryz.prog.cellsOf 51 = 4 := by kernel_rfl
  have c3 : Tryz.prog.cellsOf 3 = 1 := by kernel_rfl
  have c9 : Tryz.prog.cellsOf 9 = 1 := by kernel_rfl
  have cl : Tryz.prog.cellsOf 49 = 1 := by kernel_rfl
  rw [cn] at hsz
  have hlen' : xs.length = 4 := hlen
  obtain ⟨y0, e0⟩ := some_at hlen' (show 0 < 4 by omega)
  obtain ⟨y1, e1⟩ := some_at hlen' (show 1 < 4 by omega)
  obtain ⟨y2, e2⟩ := some_at hlen' (show 2 < 4 by omega)
  obtain ⟨y3, e3⟩ := some_at hlen' (show 3 < 4 by omega)
  obtain ⟨z0, k0, _, _⟩ := DataW.trod_int Tryz.underlying3 ((hx 0 _ rfl).trans e0)
  obtain ⟨z1, k1, _, _⟩ := DataW.trod_int Tryz.underlying3 ((hx 1 _ rfl).trans e1)
  obtain ⟨z2, k2, _, m2⟩ := DataW.trod_string Tryz.underlying9 ((hx 2 _ rfl).trans e2)
  obtain ⟨a, cap, l, k3, hso, hle, hse⟩ := open_sgs ((hx 3 _ rfl).trans e3)
  replace k0 : List.take (Tryz.prog.cellsOf 3) (List.drop 0 cs.toList) = [.int .i64 z0] := k0
  rw [c3] at k0
  replace k1 : List.take (Tryz.prog.cellsOf 3) (List.drop 1 cs.toList) = [.int .i64 z1] := k1
  rw [c3] at k1
  replace k2 : List.take (Tryz.prog.cellsOf 9) (List.drop 2 cs.toList) = [.string z2] := k2
  rw [c9] at k2
  replace k3 : List.take (Tryz.prog.cellsOf 49) (List.drop 3 cs.toList) = [.slice a l.length cap] := k3
  rw [cl] at k3
  refine ⟨⟨z0, z1, z2, l⟩, a, cap, ?_, hso, m2, hle, hse⟩
  obtain ⟨q⟩ := cs
  have hl6 : q.length = 4 := by simpa using hsz
  match q, hl6 with
  | [q0, q1, q2, q3], _ =>
    simp at k0 k1 k2 k3
    subst k0 k1 k2 k3
    rfl
def tab64 : List Int := [1116352408, 1899447441, 3049323471, 3921009573, 961987163, 1508970993, 2453635748, 2870763221, 3624381080, 310598401, 607225278, 1426881987, 1925078388, 2162078206, 2614888103, 3248222580, 3835390401, 4022224774, 264347078, 604807628, 770255983, 1249150122, 1555081692, 1996064986, 2554220882, 2821834349, 2952996808, 3210313671, 3336571891, 3584528711, 113926993, 338241895, 666307205, 773529912, 1294757372, 1396182291, 1695183700, 1986661051, 2177026350, 2456956037, 2730485921, 2820302411, 3259730800, 3345764771, 3516065817, 3600352804, 4094571909, 275423344, 430227734, 506948616, 659060556, 883997877, 958139571, 1322822218, 1537002063, 1747873779, 1955562222, 2024104815, 2227730452, 2361852424, 2428436474, 2756734187, 3204031479, 3329325298]
theorem tab_at : ∀ i : Fin 64, tab64.getD i.val 0 = ((keys.getD i.val 0 : Nat) : Int) := by decide
theorem tab_of {w : World} (h : Lib.TabIs Tryz.prog w "loop.example/g00946/impl.shaOfRound" .u32 tab64) (he : w.cell? ⟨0, 0, none⟩ = some (.iface 163 (.agg #[.pointer (some ⟨2, 78, none⟩)]))) : Tab w := by
  refine ⟨fun i hi => ?_, he⟩
  rw [h.cell gTab i (by simpa [tab64] using hi), tab_at ⟨i, hi⟩]
theorem errG : Tryz.prog.globalNamed "errors.errorType" = some 0 := by kernel_rfl
theorem rtT : (Tryz.prog.cutTypes.find? (·.1 == "internal/reflectlite.rtype")).map (·.2) = some 163 := by kernel_rfl
theorem oneErr : ((List.range 244).filter fun t => Tryz.prog.rowNamed t [101, 114, 114, 111, 114]) = [78] := by kernel_rfl
theorem allT : Tryz.prog.types.size = 244 := by kernel_rfl
/-- The handle that the listed variable of package errors holds. -/
theorem handle_of {W : World} {laid : List (String × DataW Unit)} (hm : ("errors.errorType", DataW.iface "internal/reflectlite.rtype" (.agg [.ptr (.lit (.string [101, 114, 114, 111, 114]))])) ∈ laid) (h : handlesMet Tryz.prog laid W) : W.cell? ⟨0, 0, none⟩ = some (.iface 163 (.agg #[.pointer (some ⟨2, 78, none⟩)])) := by
  obtain ⟨name, u, ty, e1, e2, e3, e4, e5⟩ := h _ hm
  have en : name = [101, 114, 114, 111, 114] := (Option.some.inj e1).symm
  subst en
  obtain rfl := Option.some.inj (rtT.symm.trans e2)
  have hq : ty ∈ (List.range 244).filter fun t => Tryz.prog.rowNamed t [101, 114, 114, 111, 114] := List.mem_filter.2 ⟨List.mem_range.2 (by rw [← allT]; exact e3), e4⟩
  rw [oneErr] at hq
  obtain rfl := List.mem_singleton.1 hq
  have hh : typeHandle Tryz.prog 78 = .pointer (some ⟨2, 78, none⟩) := by kernel_rfl
  rw [hh] at e5
  simpa using World.var?_cell errG e5 0
theorem gTabType : (Tryz.prog.globals[1]?).map (·.type) = some 203 := by kernel_rfl
theorem cells_word : Tryz.prog.cellsOf 177 = 1 := by kernel_rfl
theorem cells_table : Tryz.prog.cellsOf 203 = 64 := by kernel_rfl
theorem tab_keeps {w : World} (h : Tab w) : ∀ W, Below w.heap.size w W → Tab W := fun W hb => h.below hb h.pos
theorem reach_le {n : Nat} (h : n ≤ reachBytes) : n ≤ 140737488355328 := Nat.le_trans h (by decide)
set_option maxRecDepth 100000 in
/-- A row of validators that came in, none or some. -/
theorem open_row {H : Type} {enc : TypeId × Value → H} {W : World} {fuel : Nat} {cs : List Value} {y : DataW H × List MemPlace}
    (hf : DataW.trod enc Tryz.prog W 0 (fun _ => true) true fuel 46 cs = some y) :
    ∃ (a0 : Option Addr) (cap0 : Nat) (l : List V), cs = [.slice a0 l.length cap0] ∧ VO W a0 l ∧ l.length ≤ 9223372036854775807 := by
  obtain ⟨d, p⟩ := y
  rcases Deep.open_slice_pairs Tryz.underlying46 Tryz.underlying102 (by kernel_rfl) rfl rfl (by kernel_rfl) (by kernel_rfl) hf with ⟨hcs, _⟩ | ⟨x, len, cap, m, n, V0, V1, D0, D1, P0, P1, hcs, _, hl, hm, hmm, _, hx⟩
  · exact ⟨none, 0, [], hcs, .inl rfl, by simp⟩
  · have hmc : m = cap := by simpa using hmm
    subst hmc
    unfold maxLen at hm
    have each : ∀ i, i < m → ∃ v : V, W.cell? (x.add (i * 2)) = some (.int .i64 v.i) ∧ W.cell? (x.add (i * 2 + 1)) = some (.int .i64 v.p) := fun i hi => by
      obtain ⟨h1, h2, h3, h4⟩ := hx i hi
      obtain ⟨y, hy, _, _⟩ := DataW.trod_int Tryz.underlying3 h3
      obtain ⟨z, hz, _, _⟩ := DataW.trod_int Tryz.underlying3 h4
      injection hy with hy _
      injection hz with hz _
      exact ⟨⟨y, z⟩, by rw [h1, hy], by rw [h2, hz]⟩
    have each' : ∀ i, ∃ v : V, i < m → W.cell? (x.add (i * 2)) = some (.int .i64 v.i) ∧ W.cell? (x.add (i * 2 + 1)) = some (.int .i64 v.p) := fun i => by
      by_cases hi : i < m
      · obtain ⟨v, hv⟩ := each i hi; exact ⟨v, fun _ => hv⟩
      · exact ⟨nobody, fun h => absurd h hi⟩
    obtain ⟨f, hf⟩ := Classical.axiomOfChoice each'
    refine ⟨some x, m, (List.range len).map f, by rw [hcs]; simp, ?_, by simp; omega⟩
    by_cases hz : len = 0
    · left; simp [hz]
    · right
      obtain ⟨b, off, spot⟩ := x
      have hspot : spot = none := by
        have := World.cell?_spot (hf 0 (by omega)).1
        simpa [Addr.add] using this
      subst hspot
      refine ⟨b, off, rfl, fun j hj => ?_⟩
      have hj' : j < len := by simpa using hj
      obtain ⟨h1, h2⟩ := hf j (by omega)
      rw [add_off] at h1 h2
      simp only [List.getElem_map, List.getElem_range]
      exact ⟨h1, by rw [Nat.add_assoc]; exact h2⟩
set_option maxRecDepth 100000 in
theorem open_vals {H : Type} {enc : TypeId × Value → H} {W : World} {a0 : Option Addr} {len0 cap0 : Nat} {d0 : DataW H} {p0 : List MemPlace}
    (h0 : DataW.Trod enc Tryz.prog W 0 (fun _ => true) true 46 (.slice a0 len0 cap0) d0 p0) :
    ∃ l : List V, l.length = len0 ∧ VO W a0 l ∧ l.length ≤ 9223372036854775807 := by
  obtain ⟨fuel, hf⟩ := h0
  obtain ⟨a, c, l, h1, h2, h3⟩ := open_row hf
  simp [Value.cells] at h1
  obtain ⟨rfl, rfl, rfl⟩ := h1
  exact ⟨l, rfl, h2, h3⟩
set_option maxRecDepth 100000 in
/-- A header's cells that came in. -/
theorem open_hcells {E : Type} {enc : TypeId × Value → E} {W : World} {fuel : Nat} {cs : List Value} {y : DataW E × List MemPlace}
    (hf : DataW.trod enc Tryz.prog W 0 (fun _ => true) true fuel 45 cs = some y) (hsz : cs.length = 6) : ∃ x : H, cs = [.int .i64 x.h, .int .i64 x.t, .string x.a, .string x.v, .string x.n, .string x.d] ∧ Fits x := by
  obtain ⟨xs, n, _, _, hl, hlen, hx⟩ := DataW.trod_struct Tryz.underlying45 hf
  have c3 : Tryz.prog.cellsOf 3 = 1 := by kernel_rfl
  have c9 : Tryz.prog.cellsOf 9 = 1 := by kernel_rfl
  have hlen' : xs.length = 6 := hlen
  obtain ⟨y0, e0⟩ := some_at hlen' (show 0 < 6 by omega)
  obtain ⟨y1, e1⟩ := some_at hlen' (show 1 < 6 by omega)
  obtain ⟨y2, e2⟩ := some_at hlen' (show 2 < 6 by omega)
  obtain ⟨y3, e3⟩ := some_at hlen' (show 3 < 6 by omega)
  obtain ⟨y4, e4⟩ := some_at hlen' (show 4 < 6 by omega)
  obtain ⟨y5, e5⟩ := some_at hlen' (show 5 < 6 by omega)
  obtain ⟨z0, k0, _, _⟩ := DataW.trod_int Tryz.underlying3 ((hx 0 _ rfl).trans e0)
  obtain ⟨z1, k1, _, _⟩ := DataW.trod_int Tryz.underlying3 ((hx 1 _ rfl).trans e1)
  obtain ⟨z2, k2, _, m2⟩ := DataW.trod_string Tryz.underlying9 ((hx 2 _ rfl).trans e2)
  obtain ⟨z3, k3, _, m3⟩ := DataW.trod_string Tryz.underlying9 ((hx 3 _ rfl).trans e3)
  obtain ⟨z4, k4, _, m4⟩ := DataW.trod_string Tryz.underlying9 ((hx 4 _ rfl).trans e4)
  obtain ⟨z5, k5, _, m5⟩ := DataW.trod_string Tryz.underlying9 ((hx 5 _ rfl).trans e5)
  replace k0 : List.take (Tryz.prog.cellsOf 3) (List.drop 0 cs) = [.int .i64 z0] := k0
  rw [c3] at k0
  replace k1 : List.take (Tryz.prog.cellsOf 3) (List.drop 1 cs) = [.int .i64 z1] := k1
  rw [c3] at k1
  replace k2 : List.take (Tryz.prog.cellsOf 9) (List.drop 2 cs) = [.string z2] := k2
  rw [c9] at k2
  replace k3 : List.take (Tryz.prog.cellsOf 9) (List.drop 3 cs) = [.string z3] := k3
  rw [c9] at k3
  replace k4 : List.take (Tryz.prog.cellsOf 9) (List.drop 4 cs) = [.string z4] := k4
  rw [c9] at k4
  replace k5 : List.take (Tryz.prog.cellsOf 9) (List.drop 5 cs) = [.string z5] := k5
  rw [c9] at k5
  refine ⟨⟨z0, z1, z2, z3, z4, z5⟩, ?_, m2, m3, m4, m5⟩
  match cs, hsz with
  | [q0, q1, q2, q3, q4, q5], _ =>
    simp at k0 k1 k2 k3 k4 k5
    subst k0 k1 k2 k3 k4 k5
    rfl
set_option maxRecDepth 100000 in
theorem open_head {E : Type} {enc : TypeId × Value → E} {W : World} {base : Nat} {v0 : Value} {d0 : DataW E} {p0 : List MemPlace}
    (hval : Value.okWide Tryz.prog W .any base 45 v0) (h0 : DataW.Trod enc Tryz.prog W 0 (fun _ => true) true 45 v0 d0 p0) : ∃ x : H, v0 = hV x ∧ Fits x := by
  obtain ⟨cs, rfl, hsz⟩ := okWide_struct Tryz.underlying45 hval
  obtain ⟨fuel, hf⟩ := h0
  have c6 : Tryz.prog.cellsOf 45 = 6 := by kernel_rfl
  rw [c6] at hsz
  obtain ⟨x, hx, hfit⟩ := open_hcells hf (show cs.toList.length = 6 by simpa using hsz)
  refine ⟨x, ?_, hfit⟩
  obtain ⟨l⟩ := cs
  have : l = _ := hx
  rw [this]
  rfl
set_option maxRecDepth 100000 in
/-- An anchor that came in. -/
theorem open_anchor {E : Type} {enc : TypeId × Value → E} {W : World} {base : Nat} {v0 : Value} {d0 : DataW E} {p0 : List MemPlace}
    (hval : Value.okWide Tryz.prog W .any base 48 v0) (h0 : DataW.Trod enc Tryz.prog W 0 (fun _ => true) true 48 v0 d0 p0) : ∃ (x : H) (l : List V) (a : Option Addr) (cap : Nat), v0 = aV x (.slice a l.length cap) ∧ Fits x ∧ VO W a l ∧ l.length ≤ 9223372036854775807 := by
  obtain ⟨cs, rfl, hsz⟩ := okWide_struct Tryz.underlying48 hval
  obtain ⟨fuel, hf⟩ := h0
  obtain ⟨xs, n, _, _, hl, hlen, hx⟩ := DataW.trod_struct Tryz.underlying48 hf
  have hc : (Value.agg cs).cells.toList = cs.toList := rfl
  rw [hc] at hx hl
  have cn : Tryz.prog.cellsOf 48 = 7 := by kernel_rfl
  have c6 : Tryz.prog.cellsOf 45 = 6 := by kernel_rfl
  have cl : Tryz.prog.cellsOf 46 = 1 := by kernel_rfl
  rw [cn] at hsz
  have hlen' : xs.length = 2 := hlen
  obtain ⟨y0, e0⟩ := some_at hlen' (show 0 < 2 by omega)
  obtain ⟨y1, e1⟩ := some_at hlen' (show 1 < 2 by omega)
  have g0 := (hx 0 _ rfl).trans e0
  have g1 := (hx 1 _ rfl).trans e1
  obtain ⟨l⟩ := cs
  have hl7 : l.length = 7 := by simpa using hsz
  match l, hl7 with
  | [q0, q1, q2, q3, q4, q5, q6], _ =>
    obtain ⟨x, k0, hfit⟩ := open_hcells g0 (by show (List.take (Tryz.prog.cellsOf 45) _).length = 6; rw [c6]; rfl)
    obtain ⟨a, cap, r, k1, hv, hr⟩ := open_row g1
    replace k0 : List.take (Tryz.prog.cellsOf 45) (List.drop 0 [q0, q1, q2, q3, q4, q5, q6]) = [.int .i64 x.h, .int .i64 x.t, .string x.a, .string x.v, .string x.n, .string x.d] := k0
    rw [c6] at k0
    replace k1 : List.take (Tryz.prog.cellsOf 46) (List.drop (Tryz.prog.cellsOf 45) [q0, q1, q2, q3, q4, q5, q6]) = [.slice a r.length cap] := k1
    rw [cl, c6] at k1
    simp at k0 k1
    obtain ⟨rfl, rfl, rfl, rfl, rfl, rfl⟩ := k0
    subst k1
    exact ⟨x, r, a, cap, rfl, hfit, hv, hr⟩
set_option maxRecDepth 100000 in
/-- A trust that came in. -/
theorem open_trust {E : Type} {enc : TypeId × Value → E} {W : World} {base : Nat} {v0 : Value} {d0 : DataW E} {p0 : List MemPlace}
    (hval : Value.okWide Tryz.prog W .any base 44 v0) (h0 : DataW.Trod enc Tryz.prog W 0 (fun _ => true) true 44 v0 d0 p0) : ∃ t : Tr, v0 = trV t := by
  obtain ⟨cs, rfl, hsz⟩ := okWide_struct Tryz.underlying44 hval
  obtain ⟨fuel, hf⟩ := h0
  obtain ⟨xs, n, _, _, hl, hlen, hx⟩ := DataW.trod_struct Tryz.underlying44 hf
  have hc : (Value.agg cs).cells.toList = cs.toList := rfl
  rw [hc] at hx hl
  have cn : Tryz.prog.cellsOf 44 = 2 := by kernel_rfl
  have c3 : Tryz.prog.cellsOf 3 = 1 := by kernel_rfl
  rw [cn] at hsz
  have hlen' : xs.length = 2 := hlen
  obtain ⟨y0, e0⟩ := some_at hlen' (show 0 < 2 by omega)
  obtain ⟨y1, e1⟩ := some_at hlen' (show 1 < 2 by omega)
  obtain ⟨z0, k0, _, _⟩ := DataW.trod_int Tryz.underlying3 ((hx 0 _ rfl).trans e0)
  obtain ⟨z1, k1, _, _⟩ := DataW.trod_int Tryz.underlying3 ((hx 1 _ rfl).trans e1)
  replace k0 : List.take (Tryz.prog.cellsOf 3) (List.drop 0 cs.toList) = [.int .i64 z0] := k0
  rw [c3] at k0
  replace k1 : List.take (Tryz.prog.cellsOf 3) (List.drop 1 cs.toList) = [.int .i64 z1] := k1
  rw [c3] at k1
  refine ⟨⟨z0, z1⟩, ?_⟩
  obtain ⟨q⟩ := cs
  have hl6 : q.length = 2 := by simpa using hsz
  match q, hl6 with
  | [q0, q1], _ =>
    simp at k0 k1
    subst k0 k1
    rfl
end Go.Proofs.YtajfmjgaaapjeaaGreatDoor
