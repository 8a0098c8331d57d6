/- What the claims of chapter 4 share: the table as it is laid; a row of texts that came in; a drawn code that came in. -/
import Derived.Test.YtppkjpfofgfiaaaDoorCards
import Derived.Test.YtppkjpfofgfiaaaDoorTie
import Derived.Test.YtppkjpfofgfiaaaDoorIm6
import Derived.WalkKit
import Derived.ProofKit
import Derived.OpenShut
import Derived.OpenVars
import Derived.ShutString
import Derived.SliceStrings
import Derived.SizedLaws
import Derived.Below
import Derived.ChangeOld
import Derived.LaidMore
import Derived.Stop.Joined
import Derived.SevenTiedAt
namespace Go.Proofs.YtppkjpfofgfiaaaDoor
open Go.ChangeShapes Go.WideShapes Go.ChangeAt Go.RowKit
open Num
set_option linter.unusedVariables false
theorem own : ownKnob Tryd.prog.godebug = none := by kernel_rfl
theorem laidOut : laidOutB Tryd.prog = true := by kernel_rfl
def tab64 : List Int := [1116352408, 1899447441, 3049323471, 3921009573, 961987163, 1508970993, 2453635748, 2870763221, 3624381080, 310598401, 607225278, 1426881987, 1925078388, 2162078206, 2614888103, 3248222580, 3835390401, 4022224774, 264347078, 604807628, 770255983, 1249150122, 1555081692, 1996064986, 2554220882, 2821834349, 2952996808, 3210313671, 3336571891, 3584528711, 113926993, 338241895, 666307205, 773529912, 1294757372, 1396182291, 1695183700, 1986661051, 2177026350, 2456956037, 2730485921, 2820302411, 3259730800, 3345764771, 3516065817, 3600352804, 4094571909, 275423344, 430227734, 506948616, 659060556, 883997877, 958139571, 1322822218, 1537002063, 1747873779, 1955562222, 2024104815, 2227730452, 2361852424, 2428436474, 2756734187, 3204031479, 3329325298]
theorem tab_at : ∀ i : Fin 64, tab64.getD i.val 0 = ((keys.getD i.val 0 : Nat) : Int) := by decide
theorem tab_of {w : World} (h : Lib.TabIs Tryd.prog w "loop.example/g00946/impl.shaOfRound" .u32 tab64) : Tab w := by
  intro i hi
  rw [h.cell gTab i (by simpa [tab64] using hi), tab_at ⟨i, hi⟩]
theorem gTabType : (Tryd.prog.globals[0]?).map (·.type) = some 86 := by kernel_rfl
theorem cells_word : Tryd.prog.cellsOf 70 = 1 := by kernel_rfl
theorem cells_table : Tryd.prog.cellsOf 86 = 64 := by kernel_rfl
theorem cells_text : Tryd.prog.cellsOf 9 = 1 := by kernel_rfl
theorem bytes_text : Tryd.prog.bytesOf 9 = 16 := by kernel_rfl
theorem tab_keeps {w : World} (h : Tab w) : ∀ W, Below w.heap.size w W → Tab W := fun W hb => h.below hb h.pos
theorem weighs_strs {H : Type} (e : TypeId) : ∀ (ss : List ByteArray), ∀ s ∈ ss, s.size ∈ DataW.weightsAll Tryd.prog e (strs (H := H) ss)
  | [], s, h => by cases h
  | x :: r, s, h => by
    show s.size ∈ (DataW.lit (.string x.data.toList) : DataW H).weights Tryd.prog e ++ DataW.weightsAll Tryd.prog e (strs r)
    rw [List.mem_append]
    rcases List.mem_cons.1 h with h | h
    · left
      subst h
      show s.data.size ∈ [s.data.toList.length]
      rw [Array.length_toList]
      exact List.mem_singleton.2 rfl
    · exact .inr (weighs_strs e r s h)
/-- A row of texts that came in, none or some. -/
theorem open_texts {H : Type} {enc : TypeId × Value → H} {W : World} {a0 : Option Addr} {len0 cap0 : Nat} {d0 : DataW H} {p0 : List MemPlace}
    (h0 : DataW.Trod enc Tryd.prog W 0 (fun _ => true) true 37 (.slice a0 len0 cap0) d0 p0) (hsz : ∀ n ∈ d0.weights Tryd.prog 37, n ≤ reachBytes) :
    ∃ ss : List ByteArray, ss.length = len0 ∧ StrO W a0 ss ∧ ss.length ≤ 140737488355328 ∧ ∀ s ∈ ss, s.size ≤ 140737488355328 := by
  have hreach : reachBytes ≤ 140737488355328 := by decide
  obtain ⟨fuel, hf⟩ := h0
  rcases open_strings Tryd.underlying37 Tryd.underlying9 cells_text hf with ⟨hcs, _⟩ | ⟨x, l, c, ss, hcs, _, hl, hm, hz, hx, hcell, _⟩
  · simp [Value.cells] at hcs
    obtain ⟨rfl, rfl, rfl⟩ := hcs
    exact ⟨[], rfl, .inl rfl, by simp, fun s h => by cases h⟩
  · simp [Value.cells] at hcs
    obtain ⟨rfl, rfl, rfl⟩ := hcs
    have hz' : ss.length = cap0 := by simpa using hz
    have hd : d0 = .slice (strs (ss.take len0)) (strs (ss.drop len0)) := congrArg Prod.fst hx
    subst hd
    have hwe : (DataW.slice (strs (ss.take len0)) (strs (ss.drop len0)) : DataW H).weights Tryd.prog 37 = ((strs (H := H) (ss.take len0)).length + (strs (H := H) (ss.drop len0)).length) * Tryd.prog.bytesOf 9 :: (DataW.weightsAll Tryd.prog 9 (strs (H := H) (ss.take len0)) ++ DataW.weightsAll Tryd.prog 9 (strs (H := H) (ss.drop len0))) := by
      simp only [DataW.weights, Tryd.underlying37]
    rw [hwe] at hsz
    have hlen : (ss.take len0).length = len0 := by rw [List.length_take]; omega
    refine ⟨ss.take len0, hlen, ?_, ?_, fun s hs => ?_⟩
    · by_cases hzero : len0 = 0
      · left; omega
      · right
        obtain ⟨b, off, spot⟩ := x
        have hspot : spot = none := by
          have := World.cell?_spot (hcell 0 (by omega))
          simpa [Addr.add] using this
        subst hspot
        refine ⟨b, off, rfl, fun j hj => ?_⟩
        have hj' : j < ss.length := by rw [hlen] at hj; omega
        have hc := hcell j hj'
        have hadd : (⟨b, off, none⟩ : Addr).add j = ⟨b, off + j, none⟩ := by
          unfold Addr.add
          by_cases h : j = 0 <;> simp [h]
        rw [hadd] at hc
        rw [hc, List.getElem_take, List.getD_eq_getElem?_getD, List.getElem?_eq_getElem hj']; rfl
    · have h1 := hsz _ (List.mem_cons_self ..)
      rw [bytes_text] at h1
      have h2 : (strs (H := H) (ss.take len0)).length = len0 := by unfold strs; rw [List.length_map]; exact hlen
      rw [h2] at h1
      omega
    · have := hsz _ (List.mem_cons_of_mem _ (List.mem_append_left _ (weighs_strs 9 (ss.take len0) s hs)))
      omega
theorem toNat_of (n : Int) (_h : 0 ≤ n) (_h' : n < 256) : (UInt8.ofNat n.toNat).toNat = n.toNat := by simp; omega
theorem reach_of {H : Type} {ts : List TypeId} {ds : List (DataW H)} (h : (DataW.weightsEach Tryd.prog ts ds).all (· ≤ reachBytes) = true) {j : Nat} {t : TypeId} {d : DataW H} (ht : ts[j]? = some t) (hd : ds[j]? = some d) : ∀ n ∈ d.weights Tryd.prog t, n ≤ reachBytes := fun n hn => by
  have := List.all_eq_true.1 h _ (DataW.weights_mem_each ht hd n hn)
  simpa using this
theorem reach_le {n : Nat} (h : n ≤ reachBytes) : n ≤ 140737488355328 := Nat.le_trans h (by decide)
end Go.Proofs.YtppkjpfofgfiaaaDoor
