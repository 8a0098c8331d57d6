/- Plain facts for FnVals: what is shown is read back, whoever is right is a proposer in turn, what changes answer; of no Go text. No conditions. What laws.at answers at index 0, as a function of the code; and plain facts for FnVals. Conditions: a code of at most 2 to the 20 bytes. -/
import Derived.Test.YtaeokecodejpdaaDoorKn2
import Derived.Test.YtaeokecodejpdaaDoorG8
import Derived.Test.YtaeokecodejpdaaDoorRnum
import Derived.Test.YtaeokecodejpdaaDoorVar
import Derived.Test.YtaeokecodejpdaaDoorDs
namespace Go.Proofs.YtaeokecodejpdaaDoor
open Go.RowKit
open Num
set_option linter.unusedVariables false
theorem val_vl : ∀ (f : Nat) (n : Int), 0 ≤ n → n < 128 ^ (f + 1) → val (vl f n) = n
  | 0, n, h0, h1 => by
    have h1' : n < 128 := by simpa using h1
    simp only [vl, val, toNat_of n (by omega) (by omega)]; omega
  | f + 1, n, h0, h1 => by
    by_cases hs : n < 128
    · rw [vl_small _ _ hs]
      simp only [val, toNat_of n (by omega) (by omega)]; omega
    · rw [vl_great f n (by omega)]
      have hp : (128 : Int) ^ (f + 1 + 1) = 128 ^ (f + 1) * 128 := Int.pow_succ ..
      simp only [val, val_vl f (n / 128) (by omega) (by omega), toNat_of (128 + n % 128) (by omega) (by omega)]
      omega
theorem goodT_parts : ∀ l, goodT l = true → ∃ a c, l = a ++ [c] ∧ (∀ x ∈ a, 128 ≤ x.toNat) ∧ c.toNat < 128 ∧ 0 < c.toNat
  | [], h => by simp [goodT] at h
  | [c], h => by simp [goodT] at h; exact ⟨[], c, rfl, by simp, h.2, h.1⟩
  | c :: d :: l, h => by
    simp [goodT] at h
    obtain ⟨a, e, hl, ha, h1, h2⟩ := goodT_parts (d :: l) h.2
    refine ⟨c :: a, e, by rw [hl]; rfl, fun x hx => ?_, h1, h2⟩
    rcases List.mem_cons.1 hx with rfl | hx
    · exact h.1
    · exact ha x hx
theorem good_parts : ∀ l, good l = true → ∃ a c, l = a ++ [c] ∧ (∀ x ∈ a, 128 ≤ x.toNat) ∧ c.toNat < 128 ∧ (c.toNat = 0 → a = [])
  | [], h => by simp [good] at h
  | [c], h => by simp [good] at h; exact ⟨[], c, rfl, by simp, h, fun _ => rfl⟩
  | c :: d :: l, h => by
    simp [good] at h
    obtain ⟨a, e, hl, ha, h1, h2⟩ := goodT_parts (d :: l) h.2
    refine ⟨c :: a, e, by rw [hl]; rfl, fun x hx => ?_, h1, fun h0 => by omega⟩
    rcases List.mem_cons.1 hx with rfl | hx
    · exact h.1
    · exact ha x hx
theorem rvGo_upto (a : List UInt8) (c : UInt8) (l : List UInt8) (ha : ∀ x ∈ a, 128 ≤ x.toNat) : ∀ (j f k : Nat), k + j = a.length + 1 → 1 ≤ k → rvGo (a ++ c :: l) (f + j) k = rvGo (a ++ c :: l) f (a.length + 1)
  | 0, f, k, h, h1 => by rw [show k = a.length + 1 from by omega]; rfl
  | j + 1, f, k, h, h1 => by
    rw [show f + (j + 1) = (f + j) + 1 from by omega, rvGo_no, rvGo_upto a c l ha j f (k + 1) (by omega) (by omega)]
    rw [List.take_append_of_le_length (by omega)]
    obtain ⟨k', rfl⟩ : ∃ k', k = k' + 1 := ⟨k - 1, by omega⟩
    rw [List.take_succ_eq_append_getElem (by omega), good_last _ _ (fun x hx => ha x (List.mem_of_mem_take hx))]
    have := ha a[k'] (List.getElem_mem ..)
    simp; omega
/-- What Var makes is read as it, whatever stands behind. -/
theorem rv_var (n : Int) (l : List UInt8) (h0 : 0 ≤ n) (h1 : n ≤ 562949953421311) : rv (vl 6 n ++ l) = (n, (vl 6 n).length) := by
  have hg := good_vl 6 n h0 (by simp; omega)
  have hv := val_vl 6 n h0 (by simp; omega)
  have hl7 : (vl 6 n).length ≤ 7 := vl_length 6 n
  obtain ⟨a, c, e, ha, hc, hz⟩ := good_parts _ hg
  rw [e] at hg hv hl7 ⊢
  have hla : a.length ≤ 6 := by simp at hl7; omega
  unfold rv
  rw [List.append_assoc, List.singleton_append, show (7 : Nat) = (6 - a.length + 1) + a.length from by omega, rvGo_upto a c l ha a.length _ 1 (by omega) (by omega)]
  have ht : (a ++ c :: l).take (a.length + 1) = a ++ [c] := by
    rw [List.take_append, List.take_of_length_le (by omega)]; simp
  rw [rvGo_yes _ _ _ (by simp) (by rw [ht]; exact hg), ht, hv]; simp
def fl (l : List V) : List UInt8 := l.flatMap fun v => vl 6 v.i ++ vl 6 v.p
def inR (v : V) : Prop := 0 ≤ v.i ∧ v.i ≤ 562949953421311 ∧ 0 ≤ v.p ∧ v.p ≤ 562949953421311
theorem fl_cons (v : V) (l : List V) : fl (v :: l) = vl 6 v.i ++ (vl 6 v.p ++ fl l) := by simp [fl]
theorem var_list (n : Int) (h0 : 0 ≤ n) (h1 : n ≤ 562949953421311) : (var n).data.toList = vl 6 n := by rw [var_yes n h0 h1]
theorem fold_list : ∀ (l : List V) (s : ByteArray), (∀ v ∈ l, inR v) → (l.foldl (fun s v => s ++ (var v.i ++ var v.p)) s).data.toList = s.data.toList ++ fl l
  | [], s, _ => by simp [fl]
  | v :: l, s, h => by
    obtain ⟨a1, a2, a3, a4⟩ := h v (by simp)
    rw [List.foldl_cons, fold_list l _ (fun u hu => h u (by simp [hu])), fl_cons]
    simp only [ByteArray.data_append, Array.toList_append, var_list v.i a1 a2, var_list v.p a3 a4, List.append_assoc]
theorem shB_list (n : Int) (l : List V) (h0 : 0 ≤ n) (h1 : n ≤ 562949953421311) (h : ∀ v ∈ l, inR v) : (shB n l).data.toList = vl 6 n ++ fl l := by
  unfold shB
  rw [fold_list l _ h, var_list n h0 h1]
theorem ok_inR {l : List V} (h : vOk l = true) : ∀ v ∈ l, inR v := by
  intro v hv
  obtain ⟨k, hk, rfl⟩ := List.getElem_of_mem hv
  have := good_of_ok h hk
  unfold inR; omega
theorem read_step (s : ByteArray) (a : Nat) (l : List V) (h : ∀ v ∈ l, inR v) (hs : s.data.toList.drop a = fl l) : ∀ j, j ≤ l.length → s.data.toList.drop (atJ s a j) = fl (l.drop j) ∧ rdl s a j = l.take j
  | 0, _ => ⟨hs, rfl⟩
  | j + 1, hj => by
    obtain ⟨i1, i2⟩ := read_step s a l h hs j (by omega)
    have hlt : j < l.length := by omega
    obtain ⟨a1, a2, a3, a4⟩ := h l[j] (List.getElem_mem ..)
    rw [List.drop_eq_getElem_cons hlt, fl_cons] at i1
    have r1 : rvAt s (atJ s a j) = (l[j].i, (vl 6 l[j].i).length) := by unfold rvAt; rw [i1, rv_var _ _ a1 a2]
    have i3 : s.data.toList.drop (atJ s a j + (vl 6 l[j].i).length) = vl 6 l[j].p ++ fl (l.drop (j + 1)) := by
      rw [← List.drop_drop, i1, List.drop_left]
    have r2 : rvAt s (atJ s a j + (vl 6 l[j].i).length) = (l[j].p, (vl 6 l[j].p).length) := by unfold rvAt; rw [i3, rv_var _ _ a3 a4]
    refine ⟨?_, ?_⟩
    · show s.data.toList.drop (nxt s (atJ s a j)) = _
      unfold nxt
      rw [r1]; simp only; rw [r2]; simp only
      rw [← List.drop_drop, i3, List.drop_left]
    · rw [rdl, i2, List.take_succ_eq_append_getElem hlt]
      unfold pairAt
      rw [r1]; simp only; rw [r2]
theorem read_back {l : List V} (h : vOk l = true) : readV (showV l) = (l, true) := by
  have hl := len_ok h
  have h7 : (l.length : Int) ≤ 7 := by omega
  have hs := shB_list (l.length : Int) l (by omega) (by omega) (ok_inR h)
  rw [← showV_yes h] at hs
  have r0 : rvAt (showV l) 0 = ((l.length : Int), (vl 6 (l.length : Int)).length) := by
    unfold rvAt; rw [List.drop_zero, hs, rv_var _ _ (by omega) (by omega)]
  obtain ⟨c, t, e⟩ := vl_cons 6 (l.length : Int)
  have hp : 0 < (vl 6 (l.length : Int)).length := by rw [e]; simp
  have hd : (showV l).data.toList.drop (vl 6 (l.length : Int)).length = fl l := by rw [hs, List.drop_left]
  have hr := (read_step (showV l) _ l (ok_inR h) hd l.length (Nat.le_refl _)).2
  rw [List.take_length] at hr
  have e1 : (rvAt (showV l) 0).2 = (vl 6 (l.length : Int)).length := by rw [r0]
  have e0 : (rvAt (showV l) 0).1 = (l.length : Int) := by rw [r0]
  have e2 : (rvAt (showV l) 0).1.toNat = l.length := by rw [e0]; exact Int.toNat_natCast _
  have e := readV_eq (s := showV l) (by rw [e1]; exact hp) (e0 ▸ h7)
  rw [e1, e2] at e
  rw [e, decide_eq_true (congrArg showV hr)]
  show (_, true) = _
  rw [hr]
theorem read_no {l : List V} (h : vOk l = false) : readV (showV l) = ([], false) := by
  rw [showV_no h]
  have := rvAt_bound ⟨#[]⟩ 0
  exact readV_no0 (.inl (by have h2 : (⟨#[]⟩ : ByteArray).size = 0 := rfl; omega))
theorem read_shows {s : ByteArray} (h : (readV s).2 = true) : showV (readV s).1 = s := by
  by_cases h0 : (rvAt s 0).2 = 0 ∨ 7 < (rvAt s 0).1
  · rw [readV_no0 h0] at h; cases h
  · have e := readV_eq (s := s) (by omega) (by omega)
    by_cases hd : showV (rdl s (rvAt s 0).2 (rvAt s 0).1.toNat) = s
    · rw [decide_eq_true hd] at e; rw [e]; exact hd
    · rw [decide_eq_false hd] at e; rw [e] at h; cases h
theorem chV_told {l ch : List V} (h : (chV l ch).2 = true) : vOk (chV l ch).1 = true := by
  unfold chV at h ⊢
  cases hv : vOk l <;> rw [hv] at h
  · cases h
  · cases hs : spf l ch <;> rw [hs] at h
    · cases h
    · rename_i out
      simp only [cond_true] at h ⊢
      cases ho : vOk out <;> rw [ho] at h
      · cases h
      · simpa using ho
theorem chV_untold {l ch : List V} (h : (chV l ch).2 = false) : (chV l ch).1 = l := by
  unfold chV at h ⊢
  cases hv : vOk l <;> rw [hv] at h
  · rfl
  · cases hs : spf l ch <;> rw [hs] at h
    · rfl
    · rename_i out
      simp only [cond_true] at h ⊢
      cases ho : vOk out <;> rw [ho] at h
      · rfl
      · cases h
/-- Who proposes in the first rounds of a height. -/
def turns (l : List V) (h : Int) (n : Nat) : List Int := (List.range n).map fun i : Nat => turn l h (i : Int)
theorem turns_snoc (l : List V) (h : Int) (n : Nat) : turns l h (n + 1) = turns l h n ++ [turn l h (n : Int)] := by
  unfold turns; rw [List.range_succ, List.map_append]; rfl
theorem turns_length (l : List V) (h : Int) (n : Nat) : (turns l h n).length = n := by unfold turns; simp
theorem turns_all {l : List V} {h : Int} (hv : vOk l = true) (h0 : 0 ≤ h) (k : Nat) (hk : k < l.length) : l[k].i ∈ turns l h l.length := by
  have hn : (0 : Int) < (l.length : Int) := by omega
  have hm1 := Int.emod_nonneg h (show (l.length : Int) ≠ 0 by omega)
  have hm2 := Int.emod_lt_of_pos h hn
  obtain ⟨i, hi, e⟩ : ∃ i : Nat, i < l.length ∧ (h % (l.length : Int) + (i : Int)) % (l.length : Int) = (k : Int) := by
    by_cases hc : h % (l.length : Int) ≤ (k : Int)
    · refine ⟨((k : Int) - h % (l.length : Int)).toNat, by omega, ?_⟩
      rw [show h % (l.length : Int) + (((k : Int) - h % (l.length : Int)).toNat : Int) = (k : Int) from by omega]
      exact Int.emod_eq_of_lt (by omega) (by omega)
    · refine ⟨((k : Int) + l.length - h % (l.length : Int)).toNat, by omega, ?_⟩
      rw [show h % (l.length : Int) + (((k : Int) + l.length - h % (l.length : Int)).toNat : Int) = (k : Int) + l.length from by omega, Int.add_emod_right]
      exact Int.emod_eq_of_lt (by omega) (by omega)
  unfold turns
  refine List.mem_map.2 ⟨i, List.mem_range.2 hi, ?_⟩
  unfold turn
  rw [hv, decide_eq_true h0, decide_eq_true (show (0 : Int) ≤ (i : Int) by omega), Int.emod_eq_of_lt (show (0 : Int) ≤ (i : Int) by omega) (by omega), e]
  simp only [Bool.and_self, cond_true, Int.toNat_natCast]
  rw [getD_at hk]
end Go.Proofs.YtaeokecodejpdaaDoor
namespace Go.Proofs.YtaeokecodejpdaaDoor
open Go.RowKit
open Num
set_option linter.unusedVariables false
def at0 (L : List UInt8) : Int := (L.map fun c => (c.toNat : Int)).headD 0
theorem at0_bound (L : List UInt8) : 0 ≤ at0 L ∧ at0 L < 256 := by
  cases L with
  | nil => simp [at0]
  | cons c l => have := c.toNat_lt; simp [at0]; omega
set_option maxRecDepth 100000 in
theorem at_zero (a : Option Addr) (L : List UInt8) (cap : Nat) (w : World) (hl : CodeAt w w.heap.size a L) (hlen : L.length ≤ 1048576) :
    Calls Tryd.prog 15 #[.slice a L.length cap, .int .i64 0] w fun e w' => e = .returned (.int .i64 (at0 L)) ∧ w' = w := by
  by_cases h : 0 < L.length
  · obtain ⟨b, off, rfl, _, hc⟩ := hl 0 h
    obtain ⟨c, hcE⟩ : ∃ c, L[0] = c := ⟨_, rfl⟩
    rw [hcE, Nat.add_zero] at hc
    have hb : (c.toNat : Int) < 256 := by have := c.toNat_lt; omega
    have hlt : (0 : Int) < (L.length : Int) := by omega
    have HA : Hid (at0 L = (c.toNat : Int)) := by
      show _ = _
      cases L with
      | nil => simp at h
      | cons d l => simp at hcE; subst hcE; rfl
    clear hl hcE
    go_enter Tryd.func15, Tryd.ntmps15
    go_wp2
    go_ret
    exact ⟨by rw [HA.out]; rfl, rfl⟩
  · have hlt : ¬ (0 : Int) < (L.length : Int) := by omega
    have h0 : L.length = 0 := by omega
    have HA : Hid (at0 L = 0) := by
      show _ = _
      rw [List.eq_nil_of_length_eq_zero h0]; rfl
    clear hl h
    rw [h0]
    go_enter Tryd.func15, Tryd.ntmps15
    go_wp2
    go_ret
    exact ⟨by rw [HA.out]; rfl, rfl⟩
theorem own_at {w : World} {B : Nat} {v : Value} {l : List V} (h : OwnV w B v l) (hn : ¬ v = Value.slice none 0 0) : ∃ g cap, v = .slice (some ⟨g, 0, none⟩) l.length cap ∧ VAt w g 0 l := by
  have h' := h
  rcases h.2 with ⟨rfl, _⟩ | ⟨g, cap, cur, rfl, _, hg, hnc, hcm, _⟩
  · exact absurd rfl hn
  · refine ⟨g, cap, rfl, fun j hj => ?_⟩
    obtain ⟨e1, e2⟩ := vals_at l j hj
    rw [Nat.zero_add, h'.cellAt (j * 2) (by omega), h'.cellAt (j * 2 + 1) (by omega), e1, e2]
    exact ⟨rfl, rfl⟩
theorem chV_len (l ch : List V) : (chV l ch).1.length ≤ l.length + 7 := by
  unfold chV
  cases vOk l
  · simp
  · cases spf l ch with
    | none => simp
    | some out =>
      simp only [cond_true]
      cases h : vOk out
      · simp
      · have := len_ok h
        simp only [cond_true]; omega
theorem hasI_mem {l : List Int} {x : Int} (h : x ∈ l) : hasI l x = true := by
  unfold hasI; simpa using h
theorem OwnI.o {w : World} {B : Nat} {v : Value} {l : List Int} (h : OwnI w B v l) : ∃ a cap, v = .slice a l.length cap ∧ Nums w a l ∧ l.length ≤ cap ∧ cap ≤ 9223372036854775807 := by
  have h' := h
  rcases h.2 with ⟨rfl, hn⟩ | ⟨g, cap, cur, rfl, _, hg, hnc, hcm, _⟩
  · exact ⟨none, 0, by rw [hn], .inl hn, by omega, by omega⟩
  · refine ⟨some ⟨g, 0, none⟩, cap, rfl, .inr ⟨g, 0, rfl, fun j hj => ?_⟩, hnc, hcm⟩
    rw [Nat.zero_add, h'.cellAt j (by omega)]
    simp [i64v, hj]
theorem read_ok (l : List V) (ok : Bool) (h : vOk l = ok) : ∃ m, readV (showV l) = (m, ok) ∧ (ok = true → m = l) := by
  cases ok
  · exact ⟨[], read_no h, fun e => by cases e⟩
  · exact ⟨l, read_back h, fun _ => rfl⟩
end Go.Proofs.YtaeokecodejpdaaDoor
