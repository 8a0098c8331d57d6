/- What the claims of chapter 12 share: votes, evidence and rows of signed votes that came in; the table as it is laid. -/
import Derived.Test.YtclajbadeclbdaaDoorRows
import Derived.Test.YtclajbadeclbdaaDoorCards
import Derived.Test.YtclajbadeclbdaaDoorTie
import Derived.Test.YtclajbadeclbdaaDoorIsf
import Derived.Test.YtclajbadeclbdaaDoorLy
import Derived.Below
import Derived.WalkKit
import Derived.ProofKit
import Derived.OpenShut
import Derived.ShutString
import Derived.ChangeOld
import Derived.OpenVars
import Derived.LaidMore
import Derived.Stop.Joined
import Derived.SevenTiedAt
import Derived.Deep.Slices
namespace Go.Proofs.YtclajbadeclbdaaDoor
open Go.ChangeShapes Go.WideShapes Go.ChangeAt Go.RowKit
open Num
set_option linter.unusedVariables false
theorem own : ownKnob Tryd.prog.godebug = none := by kernel_rfl
set_option maxRecDepth 100000 in
theorem laidOut : laidOutB Tryd.prog = true := by kernel_rfl
theorem some_at {α : Type} {l : List α} {n i : Nat} (h : l.length = n) (hi : i < n) : ∃ y, l[i]? = some y := ⟨l[i], List.getElem?_eq_getElem (by omega)⟩
theorem c3 : Tryd.prog.cellsOf 3 = 1 := by kernel_rfl
theorem c9 : Tryd.prog.cellsOf 9 = 1 := by kernel_rfl
theorem cV : Tryd.prog.cellsOf 41 = 5 := by kernel_rfl
theorem cY : Tryd.prog.cellsOf 43 = 6 := by kernel_rfl
theorem cE : Tryd.prog.cellsOf 45 = 12 := by kernel_rfl
set_option maxRecDepth 100000 in
theorem open_vcells {E : Type} {enc : TypeId × Value → E} {W : World} {fuel : Nat} {cs : List Value} {y : DataW E × List MemPlace}
    (hf : DataW.trod enc Tryd.prog W 0 (fun _ => true) true fuel 41 cs = some y) (hsz : cs.length = 5) : ∃ x : Vt, cs = [.int .i64 x.h, .int .i64 x.r, .int .i64 x.s, .string x.i, .int .i64 x.v] ∧ x.i.size ≤ maxLen := by
  obtain ⟨xs, n, _, _, hl, hlen, hx⟩ := DataW.trod_struct Tryd.underlying41 hf
  have hlen' : xs.length = 5 := hlen
  obtain ⟨y0, e0⟩ := some_at hlen' (show 0 < 5 by omega)
  obtain ⟨y1, e1⟩ := some_at hlen' (show 1 < 5 by omega)
  obtain ⟨y2, e2⟩ := some_at hlen' (show 2 < 5 by omega)
  obtain ⟨y3, e3⟩ := some_at hlen' (show 3 < 5 by omega)
  obtain ⟨y4, e4⟩ := some_at hlen' (show 4 < 5 by omega)
  obtain ⟨z0, k0, _, _⟩ := DataW.trod_int Tryd.underlying3 ((hx 0 _ rfl).trans e0)
  obtain ⟨z1, k1, _, _⟩ := DataW.trod_int Tryd.underlying3 ((hx 1 _ rfl).trans e1)
  obtain ⟨z2, k2, _, _⟩ := DataW.trod_int Tryd.underlying3 ((hx 2 _ rfl).trans e2)
  obtain ⟨z3, k3, _, m3⟩ := DataW.trod_string Tryd.underlying9 ((hx 3 _ rfl).trans e3)
  obtain ⟨z4, k4, _, _⟩ := DataW.trod_int Tryd.underlying3 ((hx 4 _ rfl).trans e4)
  replace k0 : List.take (Tryd.prog.cellsOf 3) (List.drop 0 cs) = [.int .i64 z0] := k0
  rw [c3] at k0
  replace k1 : List.take (Tryd.prog.cellsOf 3) (List.drop 1 cs) = [.int .i64 z1] := k1
  rw [c3] at k1
  replace k2 : List.take (Tryd.prog.cellsOf 3) (List.drop 2 cs) = [.int .i64 z2] := k2
  rw [c3] at k2
  replace k3 : List.take (Tryd.prog.cellsOf 9) (List.drop 3 cs) = [.string z3] := k3
  rw [c9] at k3
  replace k4 : List.take (Tryd.prog.cellsOf 3) (List.drop 4 cs) = [.int .i64 z4] := k4
  rw [c3] at k4
  refine ⟨⟨z0, z1, z2, z3, z4⟩, ?_, m3⟩
  match cs, hsz with
  | [q0, q1, q2, q3, q4], _ =>
    simp at k0 k1 k2 k3 k4
    subst k0 k1 k2 k3 k4
    rfl
set_option maxRecDepth 100000 in
theorem open_ycells {E : Type} {enc : TypeId × Value → E} {W : World} {fuel : Nat} {cs : List Value} {y : DataW E × List MemPlace}
    (hf : DataW.trod enc Tryd.prog W 0 (fun _ => true) true fuel 43 cs = some y) (hsz : cs.length = 6) : ∃ x : Sv, cs = yLs x ∧ SzY x := by
  obtain ⟨xs, n, _, _, hl, hlen, hx⟩ := DataW.trod_struct Tryd.underlying43 hf
  have hlen' : xs.length = 2 := hlen
  obtain ⟨y0, e0⟩ := some_at hlen' (show 0 < 2 by omega)
  obtain ⟨y1, e1⟩ := some_at hlen' (show 1 < 2 by omega)
  have h0 := (hx 0 _ rfl).trans e0
  replace h0 : DataW.trod enc Tryd.prog W 0 (fun _ => true) true n 41 (List.take (Tryd.prog.cellsOf 41) (List.drop 0 cs)) = some y0 := h0
  rw [cV] at h0
  obtain ⟨x, hx0, m0⟩ := open_vcells h0 (by simp [hsz])
  obtain ⟨z1, k1, _, m1⟩ := DataW.trod_string Tryd.underlying9 ((hx 1 _ rfl).trans e1)
  replace k1 : List.take (Tryd.prog.cellsOf 9) (List.drop 5 cs) = [.string z1] := k1
  rw [c9] at k1
  refine ⟨⟨x, z1⟩, ?_, m0, m1⟩
  match cs, hsz with
  | [q0, q1, q2, q3, q4, q5], _ =>
    simp at hx0 k1
    obtain ⟨rfl, rfl, rfl, rfl, rfl⟩ := hx0
    subst k1
    rfl
set_option maxRecDepth 100000 in
theorem open_ecells {E : Type} {enc : TypeId × Value → E} {W : World} {fuel : Nat} {cs : List Value} {y : DataW E × List MemPlace}
    (hf : DataW.trod enc Tryd.prog W 0 (fun _ => true) true fuel 45 cs = some y) (hsz : cs.length = 12) : ∃ a b : Sv, cs = eLs a b ∧ SzY a ∧ SzY b := by
  obtain ⟨xs, n, _, _, hl, hlen, hx⟩ := DataW.trod_struct Tryd.underlying45 hf
  have hlen' : xs.length = 2 := hlen
  obtain ⟨y0, e0⟩ := some_at hlen' (show 0 < 2 by omega)
  obtain ⟨y1, e1⟩ := some_at hlen' (show 1 < 2 by omega)
  have h0 := (hx 0 _ rfl).trans e0
  replace h0 : DataW.trod enc Tryd.prog W 0 (fun _ => true) true n 43 (List.take (Tryd.prog.cellsOf 43) (List.drop 0 cs)) = some y0 := h0
  rw [cY] at h0
  have h1 := (hx 1 _ rfl).trans e1
  replace h1 : DataW.trod enc Tryd.prog W 0 (fun _ => true) true n 43 (List.take (Tryd.prog.cellsOf 43) (List.drop 6 cs)) = some y1 := h1
  rw [cY] at h1
  obtain ⟨a, ha, ma⟩ := open_ycells h0 (by simp [hsz])
  obtain ⟨b, hb, mb⟩ := open_ycells h1 (by simp [hsz])
  refine ⟨a, b, ?_, ma, mb⟩
  unfold yLs at ha hb
  match cs, hsz with
  | [q0, q1, q2, q3, q4, q5, q6, q7, q8, q9, q10, q11], _ =>
    simp at ha hb
    obtain ⟨rfl, rfl, rfl, rfl, rfl, rfl⟩ := ha
    obtain ⟨rfl, rfl, rfl, rfl, rfl, rfl⟩ := hb
    rfl
set_option maxRecDepth 100000 in
/-- Evidence that came in. -/
theorem open_evid {E : Type} {enc : TypeId × Value → E} {W : World} {base : Nat} {v0 : Value} {d0 : DataW E} {p0 : List MemPlace}
    (hval : Value.okWide Tryd.prog W .any base 45 v0) (h0 : DataW.Trod enc Tryd.prog W 0 (fun _ => true) true 45 v0 d0 p0) : ∃ a b : Sv, v0 = eV a b ∧ SzY a ∧ SzY b := by
  obtain ⟨cs, rfl, hsz⟩ := okWide_struct Tryd.underlying45 hval
  obtain ⟨fuel, hf⟩ := h0
  rw [cE] at hsz
  obtain ⟨a, b, hx, ha, hb⟩ := open_ecells hf (show cs.toList.length = 12 by simpa using hsz)
  refine ⟨a, b, ?_, ha, hb⟩
  obtain ⟨l⟩ := cs
  have : l = _ := hx
  rw [this]
  rfl
theorem add_off (b o i : Nat) : (⟨b, o, none⟩ : Addr).add i = ⟨b, o + i, none⟩ := by unfold Addr.add; split <;> simp_all
theorem add_add (x : Addr) (i c : Nat) : (x.add i).add c = x.add (i + c) := by
  by_cases hi : i = 0
  · subst hi
    by_cases hc : c = 0 <;> simp [Addr.add, hc]
  · by_cases hc : c = 0
    · simp [Addr.add, hc]
    · simp [Addr.add, hi, hc, Nat.add_assoc]
theorem cells_get {w : World} {base : Nat} {a : Addr} {n : Nat} {cs : List Value} (h : w.cells? base a n = some cs) : cs.length = n ∧ ∀ c, c < n → w.cell? (a.add c) = cs[c]? := by
  unfold World.cells? at h
  split at h
  · refine ⟨by have := mapM_some_length h; simpa using this, fun c hc => ?_⟩
    have := mapM_some_get h c c (by simp [hc])
    exact this
  · cases h
set_option maxRecDepth 100000 in
/-- A row of signed votes that came in. -/
theorem open_svotes {H : Type} {enc : TypeId × Value → H} {W : World} {a0 : Option Addr} {len0 cap0 : Nat} {d0 : DataW H} {p0 : List MemPlace}
    (h0 : DataW.Trod enc Tryd.prog W 0 (fun _ => true) true 49 (.slice a0 len0 cap0) d0 p0) :
    ∃ l : List Sv, l.length = len0 ∧ YO W a0 l ∧ l.length ≤ 9223372036854775807 ∧ ∀ y ∈ l, SzY y := by
  obtain ⟨fuel, hf⟩ := h0
  rcases Deep.open_slice Tryd.underlying49 hf with ⟨hcs, _⟩ | ⟨x, len, cap, m, n, D, Pl, hcs, _, hle, hm, hmm, _, hx⟩
  · simp [Value.cells] at hcs
    obtain ⟨rfl, rfl, rfl⟩ := hcs
    exact ⟨[], rfl, .inl rfl, by simp, by simp⟩
  · simp [Value.cells] at hcs
    obtain ⟨rfl, rfl, rfl⟩ := hcs
    have hmc : m = cap0 := by simpa using hmm
    subst hmc
    unfold maxLen at hm
    have each : ∀ i, i < m → ∃ y : Sv, (∀ c, c < 6 → W.cell? (x.add (i * 6 + c)) = (yLs y)[c]?) ∧ SzY y := fun i hi => by
      obtain ⟨cs', h1, h2⟩ := hx i hi
      rw [cY] at h1
      obtain ⟨hlen, hcell⟩ := cells_get h1
      obtain ⟨y, hy, hs⟩ := open_ycells h2 hlen
      refine ⟨y, fun c hc => ?_, hs⟩
      rw [← hy, ← hcell c hc]
      congr 1
      exact (add_add x _ c).symm
    have each' : ∀ i, ∃ y : Sv, i < m → (∀ c, c < 6 → W.cell? (x.add (i * 6 + c)) = (yLs y)[c]?) ∧ SzY y := fun i => by
      by_cases hi : i < m
      · obtain ⟨v, hv⟩ := each i hi; exact ⟨v, fun _ => hv⟩
      · exact ⟨zSv, fun h => absurd h hi⟩
    obtain ⟨f, hf⟩ := Classical.axiomOfChoice each'
    refine ⟨(List.range len0).map f, by simp, ?_, by simp; omega, fun y hy => ?_⟩
    · by_cases hz : len0 = 0
      · left; simp [hz]
      · right
        obtain ⟨b, off, spot⟩ := x
        have hspot : spot = none := by
          have h0 := (hf 0 (by omega)).1 0 (by omega)
          have := World.cell?_spot (show W.cell? _ = some (.int .i64 (f 0).x.h) from h0)
          simpa [Addr.add] using this
        subst hspot
        refine ⟨b, off, rfl, fun j hj c hc => ?_⟩
        have hj' : j < len0 := by simpa using hj
        have h1 := (hf j (by omega)).1 c hc
        rw [add_off] at h1
        simp only [List.getElem_map, List.getElem_range]
        rw [Nat.add_assoc]; exact h1
    · obtain ⟨j, hj, rfl⟩ := List.mem_map.1 hy
      have : j < len0 := by simpa using hj
      exact (hf j (by omega)).2
def tab64 : List Int := [1116352408, 1899447441, 3049323471, 3921009573, 961987163, 1508970993, 2453635748, 2870763221, 3624381080, 310598401, 607225278, 1426881987, 1925078388, 2162078206, 2614888103, 3248222580, 3835390401, 4022224774, 264347078, 604807628, 770255983, 1249150122, 1555081692, 1996064986, 2554220882, 2821834349, 2952996808, 3210313671, 3336571891, 3584528711, 113926993, 338241895, 666307205, 773529912, 1294757372, 1396182291, 1695183700, 1986661051, 2177026350, 2456956037, 2730485921, 2820302411, 3259730800, 3345764771, 3516065817, 3600352804, 4094571909, 275423344, 430227734, 506948616, 659060556, 883997877, 958139571, 1322822218, 1537002063, 1747873779, 1955562222, 2024104815, 2227730452, 2361852424, 2428436474, 2756734187, 3204031479, 3329325298]
theorem tab_at : ∀ i : Fin 64, tab64.getD i.val 0 = ((keys.getD i.val 0 : Nat) : Int) := by decide
theorem tab_of {w : World} (h : Lib.TabIs Tryd.prog w "loop.example/g00946/impl.shaOfRound" .u32 tab64) : Tab w := by
  intro i hi
  rw [h.cell gTab i (by simpa [tab64] using hi), tab_at ⟨i, hi⟩]
theorem gTabType : (Tryd.prog.globals[0]?).map (·.type) = some 138 := by kernel_rfl
theorem cells_word : Tryd.prog.cellsOf 110 = 1 := by kernel_rfl
theorem cells_table : Tryd.prog.cellsOf 138 = 64 := by kernel_rfl
theorem tab_keeps {w : World} (h : Tab w) : ∀ W, Below w.heap.size w W → Tab W := fun W hb => h.below hb h.pos
theorem reach_le {n : Nat} (h : n ≤ reachBytes) : n ≤ 140737488355328 := Nat.le_trans h (by decide)
end Go.Proofs.YtclajbadeclbdaaDoor
